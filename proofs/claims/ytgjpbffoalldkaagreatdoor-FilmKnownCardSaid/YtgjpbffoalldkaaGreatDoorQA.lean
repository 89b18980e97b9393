/- The values of the document's examples of layer film, and small laws on blocks. -/
import Derived.Test.YtgjpbffoalldkaaGreatDoorXQ
import Derived.Test.YtgjpbffoalldkaaGreatDoorZB
import Derived.Test.YtgjpbffoalldkaaGreatDoorXG
import Derived.Test.YtgjpbffoalldkaaGreatDoorXI
import Derived.Deep.RegionHeld3
import Derived.Deep.RegionHeld
import Derived.RegionTactic
import Derived.Lib.SliceRun
import Derived.Lib.Walk
import Derived.Lib.AppendZerosOnto
namespace Go.Proofs.YtgjpbffoalldkaaGreatDoor
open Go Go.RowKit Go.Shelf

/-- A block that holds just these cells. -/
def Ob (W : World) (B : Nat) (T : TypeId) (cs : Array Value) : Prop := W.heap[B]? = some (.cells cs T (0, 0))
theorem Ob.lt {W : World} {B : Nat} {T : TypeId} {cs : Array Value} (h : Ob W B T cs) : B < W.heap.size := (Array.getElem?_eq_some_iff.1 h).1
theorem Ob.cell {W : World} {B : Nat} {T : TypeId} {cs : Array Value} (h : Ob W B T cs) (j : Nat) : W.cell? ⟨B, j, none⟩ = cs[j]? := by
  unfold Ob at h; simp [World.cell?, h]
theorem Ob.frozen {W : World} {B : Nat} {T : TypeId} {cs : Array Value} (h : Ob W B T cs) (j : Nat) : W.frozen? ⟨B, j, none⟩ = false := by
  unfold Ob at h; simp [World.frozen?, h]
theorem Ob.drew {W : World} {B : Nat} {T : TypeId} {cs : Array Value} (h : Ob W B T cs) : Ob W.drew B T cs := h
theorem Ob.below {W W1 : World} {B : Nat} {T : TypeId} {cs : Array Value} (h : Ob W B T cs) (hb : Below W.heap.size W W1) : Ob W1 B T cs := (hb.block B h.lt).trans h
theorem Ob.grown {W W1 : World} {B : Nat} {T : TypeId} {cs : Array Value} {row : Option Nat} (h : Ob W B T cs) (hg : W.grownBy W1 row) (hne : row ≠ some B) : Ob W1 B T cs := (hg.block B h.lt (fun e => hne e.symm)).trans h
theorem Ob.new (W : World) (cs : Array Value) (T : TypeId) : Ob (W.alloc (.cells cs T)) W.heap.size T cs := by show (W.heap.push _)[W.heap.size]? = _; simp
theorem Ob.alloc {W : World} {B : Nat} {T : TypeId} {cs : Array Value} (h : Ob W B T cs) (o : Obj) : Ob (W.alloc o) B T cs := h.below (B_alloc (Below.refl _ _) _)
theorem Ob.other {W : World} {B : Nat} {T : TypeId} {cs : Array Value} (h : Ob W B T cs) {p : Addr} (hne : p.block ≠ B) (v : Value) : Ob (W.setCell p v) B T cs :=
  (Below.heap_setCell W p v B (fun e => hne e.symm)).trans h
theorem Ob.set {W : World} {B : Nat} {T : TypeId} {cs : Array Value} (h : Ob W B T cs) (j : Nat) (v : Value) : Ob (W.setCell ⟨B, j, none⟩ v) B T (cs.setIfInBounds j v) := by
  unfold Ob at h ⊢
  show (W.heap.modify B _)[B]? = _
  rw [Array.getElem?_modify, h]
  simp

/-- It ends in no other way. -/
def Only (Q : Exit → Act → World → Prop) : Exit → Act → World → Prop := fun e a w => e = .normal ∧ Q .normal a w
theorem Only.mk {Q : Exit → Act → World → Prop} {a : Act} {w : World} (h : Q .normal a w) : Only Q .normal a w := ⟨rfl, h⟩
theorem Only.imp {Q : Exit → Act → World → Prop} (e : Exit) (a : Act) (w : World) (h : Only Q e a w) : Q e a w := by obtain ⟨rfl, h⟩ := h; exact h
theorem Only.not_panic {Q : Exit → Act → World → Prop} {p : Prop} {c : List PanicEntry} {a : Act} {w : World} (h : Only Q (.panic c) a w) : p := by cases h.1
/-- An operation with a guard that is met. -/
theorem AllReadyH.cons_want {P : Program} {ops : Array Oper} {Q : Exit → Act → World → Prop} {md : Region.Mode} {S : World → Prop} {fuel : Nat} {listed : Array Bool} {a : Act} {w : World} {i : Nat} {o : Oper} {rs : List Nat} (ho : ops[i]? = some o) (hw : Region.wanted o (yielded ops a.tmps) = true)
    (h : ∀ K' : Act → World → Prop, Shut (∀ a w, S w → (S w → wpAnyH P md ops Q S fuel (listed.setIfInBounds i true) a w) → K' a w) → Oper.wp P o a w K' Q)
    (hs : AllReadyH P md ops Q S fuel listed a w rs) : AllReadyH P md ops Q S fuel listed a w (i :: rs) :=
  AllReadyH.cons ho (fun K' hK => by rw [if_pos hw]; exact h K' hK) hs
theorem wpAnyH_take2 {P : Program} {ops : Array Oper} {Q : Exit → Act → World → Prop} {md : Region.Mode} {S : World → Prop} {i : Nat} {t : Tmp} {oi : Oper} {v : Value} {fuel : Nat} {listed : Array Bool} {a : Act} {w : World} (hi : ops[i]? = some oi) (hd : oi.dst = some t)
    (hs : Region.noSelect ops = true) (hf : Region.free md ops listed i = true) (hr : (Region.ready md ops listed).contains i = true)
    (hQ : ∀ c a w, Q (.panic c) (a.put oi.dst v) w → Q (.panic c) a w) (hy : YieldsIf P ops S oi v a) (hS : S w)
    (h : wpAnyH P md ops Q S fuel (listed.setIfInBounds i true) (a.put (some t) v) w) : wpAnyH P md ops Q S (fuel + 1) listed a w :=
  wpAnyH_take hi hs hf hr hQ hy hS (by rw [hd]; exact h)

theorem wp_region_held' {P : Program} {ops : Array Oper} {Q : Exit → Act → World → Prop} {S : World → Prop} {id : Nat} {a : Act} {w : World} (hm : P.follows .mixedOrders = true) (hS : S w.drew)
    (h : S w.drew → wpAnyH P .any ops (Only Q) S ops.size (Array.replicate ops.size false) a w.drew) : (Code.region id ops true).wp P Q a w :=
  wp_mono (wp_region_held_drew hm hS h) Only.imp

def frK (i : Nat) : Int := [50, 42, 150, 5, 999].getD i 0
def roK (i : Nat) : Int := [4, 4, 4, 4, 7].getD i 0
def plK (i : Nat) : T2 := [(1640, 1648), (1632, 1632), (1748, 159984), (0, 1595), (1280, 159984)].getD i (0, 0)
theorem k_feet : feetV 35 1000 = .tuple #[.int .i64 62, .int .i64 8, .int .i64 0] := by kernel_rfl
theorem k_frames : framesV 16 25 39 = .tuple #[.int .i64 1039, .int .i64 0] := by kernel_rfl
theorem k_n1 : nameB (⟨#[97, 45, 50]⟩ : ByteArray).data.toList = true := by kernel_rfl
theorem k_n2 : nameB (⟨#[97, 45, 45, 50]⟩ : ByteArray).data.toList = false := by kernel_rfl
theorem k_n3 : nameB (⟨#[50, 97]⟩ : ByteArray).data.toList = false := by kernel_rfl
theorem k_place (B i : Nat) (h : i < 5) : placeV (reelR B) reelM reelS reelL (frK i) = .tuple #[.int .i64 (roK i), .agg #[.int .i64 (plK i).1, .int .i64 (plK i).2], .int .i64 0] := by
  rcases (show i = 0 ∨ i = 1 ∨ i = 2 ∨ i = 3 ∨ i = 4 by omega) with rfl | rfl | rfl | rfl | rfl
  · kernel_rfl
  · kernel_rfl
  · kernel_rfl
  · kernel_rfl
  · kernel_rfl
theorem k_m4 (B : Nat) : madeL (reelR B) reelS 4 = [1928] := by kernel_rfl
theorem k_m7 (B : Nat) : madeL (reelR B) reelS 7 = [1926] := by kernel_rfl
def reelX (B : Nat) (la : Option Addr) (lc : Nat) : RA := ⟨⟨#[110, 97, 110, 97, 45, 50]⟩, 35, 1, 1000, 1925, 1940, 3, some ⟨B, 0, none⟩, 5, 5, some ⟨B + 1, 0, none⟩, 2, 2, la, 3, lc⟩
def reelLX : List T3 := [(100, 1891000, 1000), (200, 3780000, 2500), (100, 1895000, 0)]
theorem k_check (B : Nat) (la : Option Addr) (lc : Nat) : (checkS (reelX B la lc) reelM reelS reelLX).2.2 = 0 := by kernel_rfl
theorem k_shrink : (shrinkS 19000 reelLX 3).2.2 = 2 := by kernel_rfl
theorem info81 : (Tryz.prog.info? 81).map (fun i => (i.zero, i.size, i.bytes)) = some (some (.agg #[.int .i64 0, .int .i64 0, .int .i64 0]), 3, 24) := by kernel_rfl
end Go.Proofs.YtgjpbffoalldkaaGreatDoor
