/- A region that draws its order, by what every set of listed operations keeps (no order is walked). -/
import Derived.Orders
namespace Go.Proofs.YtgjpbffoalldkaaGreatDoor
open Go

section
variable {P : Program} {ops : Array Oper} {Q : Exit → Act → World → Prop} {md : Region.Mode} {I : Array Bool → Act → World → Prop}

theorem ready_unlisted {listed : Array Bool} {i : Nat} (h : i ∈ Region.ready md ops listed) : i < ops.size ∧ listed.getD i true = false := by
  unfold Region.ready at h
  rw [List.mem_filter, Bool.and_eq_true, List.mem_range] at h
  exact ⟨h.1, by simpa using h.2.1⟩

/-- WHAT HOLDS OF THE LISTED, THE FRAME AND THE WORLD AT THE START, AND IS KEPT BY EACH OPERATION THAT IS READY, HOLDS AT THE END. -/
theorem wpAny_inv (hstep : ∀ i listed a w, I listed a w → listed.size = ops.size → i ∈ Region.ready md ops listed → wpOp P ops Q i (I (listed.setIfInBounds i true)) a w)
    (hend : ∀ listed a w, I listed a w → listed.size = ops.size → Region.ready md ops listed = [] → Q .normal a w) :
    ∀ (fuel : Nat) (listed : Array Bool) (a : Act) (w : World), listed.size = ops.size → listed.toList.countP (!·) ≤ fuel → I listed a w → wpAny P md ops Q fuel listed a w
  | 0, listed, a, w, hs, hc, hI => by
    have h0 : Region.ready md ops listed = [] := by
      rw [List.eq_nil_iff_forall_not_mem]
      intro i hi
      obtain ⟨h1, h2⟩ := ready_unlisted hi
      have h3 : i < listed.size := by omega
      have h4 : listed.toList.countP (!·) = 0 := by omega
      rw [List.countP_eq_zero] at h4
      have h5 := h4 listed[i] (by simp)
      rw [Array.getD_eq_getD_getElem?, Array.getElem?_eq_getElem h3, Option.getD_some] at h2
      rw [h2] at h5
      exact h5 rfl
    exact ⟨h0, hend _ _ _ hI hs h0⟩
  | fuel + 1, listed, a, w, hs, hc, hI => by
    refine ⟨fun h => hend _ _ _ hI hs h, fun i hi => wpOp_mono (fun a' w' h => ?_) (hstep i listed a w hI hs hi)⟩
    obtain ⟨h1, h2⟩ := ready_unlisted hi
    have h3 : i < listed.size := by omega
    rw [Array.getD_eq_getD_getElem?, Array.getElem?_eq_getElem h3, Option.getD_some] at h2
    refine wpAny_inv hstep hend fuel _ a' w' (by simpa using hs) ?_ h
    have e : (listed.setIfInBounds i true).toList = listed.toList.set i true := by simp
    rw [e, List.countP_set (by simpa using h3)]
    simp only [Array.getElem_toList, h2, Bool.not_false, Bool.not_true, if_true, Bool.false_eq_true, if_false]
    omega

/-- The same, of a region. -/
theorem wp_region_inv {id : Nat} {a : Act} {w : World} (hm : P.follows .mixedOrders = true)
    (hstart : I (Array.replicate ops.size false) a { w with drawn := w.drawn + 1 })
    (hstep : ∀ i listed a w, I listed a w → listed.size = ops.size → i ∈ Region.ready .any ops listed → wpOp P ops Q i (I (listed.setIfInBounds i true)) a w)
    (hend : ∀ listed a w, I listed a w → listed.size = ops.size → Region.ready .any ops listed = [] → Q .normal a w) : (Code.region id ops true).wp P Q a w :=
  wp_region_any hm (wpAny_inv hstep hend _ _ _ _ (by simp) (by have := List.countP_le_length (p := (!·)) (l := (Array.replicate ops.size false).toList); simpa using this) hstart)

/-- Where each operation waits for earlier ones only, nothing is ready only at the end. -/
theorem ready_nil {listed : Array Bool} (hs : listed.size = ops.size) (he : ∀ i (o : Oper), ops[i]? = some o → ∀ e ∈ o.after, e.on < i) (h : Region.ready md ops listed = []) : ∀ i, i < ops.size → listed.getD i false = true := by
  intro i
  induction i using Nat.strongRecOn with
  | ind i ih =>
    intro hi
    cases hl : listed.getD i false with
    | true => rfl
    | false =>
      have hm : i ∈ Region.ready md ops listed := by
        unfold Region.ready
        rw [List.mem_filter, List.mem_range, Bool.and_eq_true]
        refine ⟨hi, ?_, ?_⟩
        · rw [Array.getD_eq_getD_getElem?, Array.getElem?_eq_getElem (by omega)] at hl ⊢
          simpa using hl
        · rw [Array.getElem?_eq_getElem hi]
          simp only [Option.map_some, Option.getD_some]
          rw [Array.all_eq_true_iff_forall_mem]
          intro e hem
          have hlt := he i ops[i] (Array.getElem?_eq_getElem hi) e hem
          rw [ih e.on hlt (by omega)]
          simp
      rw [h] at hm
      cases hm
end
end Go.Proofs.YtgjpbffoalldkaaGreatDoor
