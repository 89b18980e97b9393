/- The walk of film.numbers. -/
import Derived.Test.YtgjpbffoalldkaaGreatDoorWI
import Derived.Deep.LoopGhost
import Derived.Lib.ItoaLen
import Derived.Laws.Concat
namespace Go.Proofs.YtgjpbffoalldkaaGreatDoor
open Go.RowKit

/-- A text of bytes. -/
abbrev str (l : List UInt8) : Value := .string ⟨l.toArray⟩
/-- A word and numbers behind it. -/
def numsTo (word : List UInt8) (zs : List Int) : Nat → List UInt8
  | 0 => word
  | k + 1 => numsTo word zs k ++ 32 :: Lib.itoa (zs.getD k 0)

/-- How long a line of numbers is. -/
theorem numsTo_len (word : List UInt8) (zs : List Int) (n : Nat) (h : ∀ i, i < n → -9223372036854775808 ≤ zs.getD i 0 ∧ zs.getD i 0 ≤ 9223372036854775807) : ∀ k, k ≤ n → (numsTo word zs k).length ≤ word.length + 22 * k
  | 0, _ => by simp [numsTo]
  | k + 1, hk => by
    have := numsTo_len word zs n h k (by omega)
    have h2 := Lib.itoa_length_le _ (h k (by omega)).1 (h k (by omega)).2
    simp only [numsTo, List.length_append, List.length_cons]
    omega

set_option maxHeartbeats 1000000 in
set_option maxRecDepth 100000 in
theorem numbers_any (word : List UInt8) (a : Option Addr) (n c : Nat) (zs : List Int) (w : World) (G : Glob w) (hw : word.length ≤ 1000) (hn : n ≤ 10) (hz : Ints w a n zs) (hzr : ∀ i, i < n → -9223372036854775808 ≤ zs.getD i 0 ∧ zs.getD i 0 ≤ 9223372036854775807) :
    Calls Tryz.prog 73 #[str word, .slice a n c] w fun e w' => e = .returned (str (numsTo word zs n)) ∧ Below w.heap.size w w' := by
  have Hz := Lib.hid hz
  have HL := Lib.hid (numsTo_len word zs n hzr)
  have Hzr := Lib.hid hzr
  clear hzr
  go_enter Tryz.func73, Tryz.ntmps73
  go_wp2
  go_loopg [0, 6, 9] n (fun gk s x i wr => ∃ k : Nat, gk = n - k ∧ k ≤ n ∧ i = .int .i64 k ∧ Hid (s = str (numsTo word zs k)) ∧ Below w.heap.size w wr)
  case atStart => exact ⟨0, rfl, Nat.zero_le _, rfl, rfl, Below.refl _ _⟩
  case round =>
    obtain ⟨k, rfl, hk, rfl, hs, hb⟩ := hrel
    by_cases hlt : k < n
    · obtain ⟨b, o, hab, hbs, hcells⟩ := Hz.out.at_ (by omega)
      have c0 := (hb.cell (p := ⟨b, o + k, none⟩) hbs).trans (hcells k hlt)
      obtain ⟨z0, z1⟩ := Hzr.out k hlt
      have hst : Hid (numsTo word zs (k + 1) = numsTo word zs k ++ 32 :: Lib.itoa (zs.getD k 0)) := rfl
      have hl2 := Lib.itoa_length_le _ z0 z1
      have hl1 := HL.out k hk
      generalize zs.getD k 0 = z at c0 z0 z1 hst hl2
      have HI := Lib.hid (Tryz.strconv_Itoa z z0 z1 wr (G.below G.hz hb).pt)
      obtain rfl := hs.out
      clear hcells hs
      generalize numsTo word zs k = s at hst hl1 ⊢
      have hl3 : s.length ≤ 2000 := by omega
      clear hl1
      go_wp2_with (go_at_call 93; refine HI.out.mono ?_; rintro e w1 ⟨rfl, kk, os, rfl⟩)
      rw [← hab]
      clear hab
      go_roundg (n - (k + 1))
      case measure => omega
      case rel => exact ⟨k + 1, rfl, hlt, by go_num, by rw [Hid, hst.out]; simp only [ByteArray.mk_append_mk]; rfl, B_trans hb (Lib.below_grow wr.heap.size wr (Nat.le_refl _) kk os)⟩
    · obtain rfl : k = n := by omega
      go_wp2
      go_ret
      exact ⟨congrArg Ending.returned hs.out, hb⟩
end Go.Proofs.YtgjpbffoalldkaaGreatDoor
