/- Sets of years as lists; the walks of ascending, ContainsFunc, a closure of Years, rollsOf. -/
import Derived.Test.YtgjpbffoalldkaaGreatDoorWH
import Derived.Test.YtgjpbffoalldkaaGreatDoorWG
import Derived.Test.YtgjpbffoalldkaaGreatDoorWS
import Derived.Lib.OwnBridge
import Derived.Lib.AppendIntMem
namespace Go.Proofs.YtgjpbffoalldkaaGreatDoor
open Go.RowKit Go.Maps

/-- The years of a set, in their order. -/
def yl (S : Int → Bool) : List Int := ((List.range 3001).map fun (i : Nat) => (i : Int)).filter S
theorem yl_sorted (S : Int → Bool) : (yl S).Pairwise (fun a b => a < b) := by
  refine List.Pairwise.filter _ ?_
  rw [List.pairwise_map]
  exact List.pairwise_lt_range.imp fun h => by omega
theorem mem_yl {S : Int → Bool} {x : Int} (hr : ∀ x, S x = true → 0 ≤ x ∧ x ≤ 3000) : x ∈ yl S ↔ S x = true := by
  unfold yl
  rw [List.mem_filter, List.mem_map]
  constructor
  · exact fun h => h.2
  · intro h
    obtain ⟨h0, h1⟩ := hr x h
    exact ⟨⟨x.toNat, List.mem_range.2 (by omega), by omega⟩, h⟩
theorem yl_len (S : Int → Bool) : (yl S).length ≤ 3001 := by
  unfold yl
  refine Nat.le_trans (List.length_filter_le _ _) (by simp)

theorem sorted_yl {w : World} {b n : Nat} {D : DataW Unit} {R : Value → Option (DataW Unit × List MemPlace)} {S : Int → Bool} (hown : w.ownsMap Tryz.prog 3 R b n D) (hS : ∀ x, Maps.has D (.int .i64 x) = S x) (hr : ∀ x, S x = true → 0 ≤ x ∧ x ≤ 3000) {ss : List Int} (hp : ss.Perm (intKeys D)) :
    ss.mergeSort (fun x y => decide (x ≤ y)) = yl S := by
  have h1 : CollectedI D (fun _ => false) (yl S) := ⟨(yl_sorted S).imp (fun h => by omega), fun x => by rw [mem_yl hr, hS x]; simp⟩
  have h2 := h1.perm hown law3 Tryz.underlying3 (fun _ => rfl)
  have h3 : ss.Perm (yl S) := hp.trans h2.symm
  have h4 := mergeSort_of_perm_i h3
  refine h4.trans (List.mergeSort_of_pairwise ?_)
  exact (yl_sorted S).imp fun h => by simp [leI]; omega

/-- A slice of the call's own, that holds integers. -/
def IntsPost (L : List Int) (w : World) (e : Ending) (w' : World) : Prop := ∃ v, e = .returned v ∧ w'.ownsRow w.heap.size 3 1 v L.length (L.map (Value.int .i64)) ∧ (v = .slice none 0 0 ↔ L = []) ∧ Below w.heap.size w w'

theorem size_le_of {w : World} {b n : Nat} {D : DataW Unit} {R : Value → Option (DataW Unit × List MemPlace)} (hown : w.ownsMap Tryz.prog 3 R b n D) : Maps.size D ≤ n := by
  obtain ⟨es, clock, hb, F, hs, rfl⟩ := hown
  rw [size_eq, length_sorted]
  simpa using hs

theorem ascending_any (b : Nat) (S : Int → Bool) (w : World) (hS : SetAt w b S) (hr : ∀ x, S x = true → 0 ≤ x ∧ x ≤ 3000) :
    Calls Tryz.prog 68 #[.map (some b)] w (IntsPost (yl S) w) := by
  obtain ⟨D, hown, hD, hSx⟩ := hS
  have hsz := size_le_of hown
  refine (Tryz.ascending b 1000 D _ w hown (by unfold maxLen; omega) (by omega)).mono ?_
  rintro e w' ⟨v, ss, rfl, hp, hrow, hnil, hb⟩
  have hs := sorted_yl hown hSx hr hp
  rw [hs] at hrow
  have hl : ss.length = (yl S).length := by rw [← hs, List.length_mergeSort]
  refine ⟨v, rfl, by rw [← hl]; exact hrow, hnil.trans ?_, hb⟩
  rw [← List.length_eq_zero_iff, hl, List.length_eq_zero_iff]

/-- A row of the call's own reads as integers. -/
theorem ints_of_row {w : World} {B : Nat} {v : Value} {L : List Int} (h : w.ownsRow B 3 1 v L.length (L.map (Value.int .i64))) : ∃ a n c, v = .slice a n c ∧ Ints w a n L ∧ (∀ x, a = some x → B ≤ x.block) := by
  rcases Joins.ownsRow_forms h with ⟨rfl, hn⟩ | ⟨g, cap, rfl⟩
  · exact ⟨none, 0, 0, rfl, ⟨hn, fun h => absurd h (by omega)⟩, fun x e => by cases e⟩
  · refine ⟨_, _, _, rfl, ⟨rfl, fun _ => ⟨g, 0, rfl, (h.lt g rfl).2, fun i hi => ?_⟩⟩, fun x e => by cases e; exact (h.lt g rfl).1⟩
    have := h.cellAt i (by omega)
    rw [Nat.zero_add, this, List.getElem?_map, List.getElem?_eq_getElem hi, List.getD_eq_getElem?_getD, List.getElem?_eq_getElem hi]
    rfl

theorem containsFunc_any (fn : FuncId) (cap : Array Value) (p : Int → Bool) (a : Option Addr) (n c : Nat) (zs : List Int) (w : World) (hn : n ≤ 100000) (hz : Ints w a n zs)
    (hent : ∀ args w, (callFunc fn args).run Tryz.prog w = .ok (.enter fn args) w)
    (hp : ∀ (i : Nat) (W : World), i < n → Below w.heap.size w W → Calls Tryz.prog fn (#[.int .i64 (zs.getD i 0)] ++ cap) W fun e w' => e = .returned (.bool (p (zs.getD i 0))) ∧ Below W.heap.size W w') :
    Calls Tryz.prog 66 #[.slice a n c, .func (.func fn) #[] cap] w fun e w' => e = .returned (.bool (zs.any p)) ∧ Below w.heap.size w w' := by
  have HI := Lib.hid (indexFunc_any fn cap p a n c zs w hn hz hent hp)
  clear hp hz hent
  go_enter Tryz.func66, Tryz.ntmps66
  go_wp2_with (go_at_call 89; refine HI.out.mono ?_; rintro e w1 ⟨k, rfl, hk, hb⟩; have Hk := Lib.hid hk; clear hk)
  go_ret
  exact ⟨ret_bool Hk.out, hb⟩

theorem ent66 : ∀ args w, (callFunc 67 args).run Tryz.prog w = .ok (.enter 67 args) w := enters_of Tryz.func67 (by kernel_rfl) rfl
theorem ent64 : ∀ args w, (callFunc 65 args).run Tryz.prog w = .ok (.enter 65 args) w := enters_of Tryz.func65 (by kernel_rfl) rfl
theorem ent87 : ∀ args w, (callFunc 88 args).run Tryz.prog w = .ok (.enter 88 args) w := enters_of Tryz.func88 (by kernel_rfl) rfl

/-- Can a reel have been printed in a year, if its stock was made in one of some years? -/
def nearB (made : List Int) (k y : Int) : Bool := made.any fun m => inB m (y - k) y

theorem nearY_any (M B : Nat) (a : Option Addr) (n c : Nat) (made : List Int) (k y : Int) (w : World) (hn : n ≤ 100000) (hM : w.cell? ⟨M, 0, none⟩ = some (.slice a n c)) (hMl : M < w.heap.size) (hz : Ints w a n made)
    (hk : w.cell? ⟨B, 6, none⟩ = some (.int .i64 k)) (hBl : B < w.heap.size) (k0 : 0 ≤ k) (k1 : k ≤ 50) (y0 : 0 ≤ y) (y1 : y ≤ 3000) :
    Calls Tryz.prog 65 #[.int .i64 y, .pointer (some ⟨M, 0, none⟩), .pointer (some ⟨B, 0, none⟩)] w fun e w' => e = .returned (.bool (nearB made k y)) ∧ Below w.heap.size w w' := by
  have hbl : Below w.heap.size w (w.alloc (.cells #[.int .i64 y] 3)) := B_alloc (Below.refl _ _) _
  have hyc : (w.alloc (.cells #[.int .i64 y] 3)).cell? ⟨w.heap.size, 0, none⟩ = some (.int .i64 y) := by rw [World.cell?_alloc_at _ _ _ _ rfl]; rfl
  have hC := containsFunc_any 67 #[.pointer (some ⟨w.heap.size, 0, none⟩), .pointer (some ⟨B, 0, none⟩)] (fun m => inB m (y - k) y) a n c made (w.alloc (.cells #[.int .i64 y] 3)) hn (hz.below hbl) ent66
    (fun i W hi hW => near_any w.heap.size B y k (made.getD i 0) W ((hW.cell (p := ⟨w.heap.size, 0, none⟩) (by simp)).trans hyc) ((hW.cell (p := ⟨B, 6, none⟩) (by simp; omega)).trans ((hbl.cell (p := ⟨B, 6, none⟩) hBl).trans hk)) k0 k1 y0 y1)
  have HC := Lib.hid hC
  have hM' : (w.alloc (.cells #[.int .i64 y] 3)).cell? ⟨M, 0, none⟩ = some (.slice a n c) := (hbl.cell (p := ⟨M, 0, none⟩) hMl).trans hM
  clear hC hyc hk hM
  go_enter Tryz.func65, Tryz.ntmps65
  go_wp2_with (go_at_call 66; refine HC.out.mono ?_; rintro e w1 ⟨rfl, hb⟩)
  go_ret
  exact ⟨rfl, B_trans hbl hb⟩
end Go.Proofs.YtgjpbffoalldkaaGreatDoor
