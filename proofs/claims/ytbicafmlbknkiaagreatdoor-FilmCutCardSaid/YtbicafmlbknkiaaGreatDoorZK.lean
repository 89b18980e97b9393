/- A region that draws its order and ends in a store, in two phases: before and behind one of its operations (no order is walked). -/
import Derived.Test.YtbicafmlbknkiaaGreatDoorZD
namespace Go.Proofs.YtbicafmlbknkiaaGreatDoor
open Go

section
variable {P : Program} {ops : Array Oper} {Q : Exit → Act → World → Prop} {S : Bool → World → Prop} {T : World → Prop} {R : Nat → Value → World → Prop} {a0 : Act} {out : List Nat} {jA : Nat} {ρ : Operand → Value}

/-- What an operation's run owes: its own claim, what always holds, what is kept, what the store has done. -/
def PhaseOut (P : Program) (S : Bool → World → Prop) (T : World → Prop) (R : Nat → Value → World → Prop) (ops : Array Oper) (out : List Nat) (jA i : Nat) (b : Bool) (o : Oper) (w : World) : Result Next → Prop
  | .ok (.value v) w' => (∀ t, o.dst = some t → R t v w') ∧ S (b || i == jA) w' ∧ (∀ s u, spared ops out i s = false → R s u w → R s u w') ∧ (o.dst = none → T w') ∧ (stored ops i = false → T w → T w')
  | .ok (.enter f args) w' => Calls P f args w' fun e w'' => ∃ v, e = .returned v ∧ (∀ t, o.dst = some t → R t v w'') ∧ S (b || i == jA) w'' ∧ (∀ s u, spared ops out i s = false → R s u w → R s u w'') ∧ (o.dst = none → T w'') ∧ (stored ops i = false → T w → T w'')
  | .ok .skip w' => o.dst = none ∧ S (b || i == jA) w' ∧ (∀ s u, spared ops out i s = false → R s u w → R s u w') ∧ T w'
  | _ => False
def PhaseRun (P : Program) (ops : Array Oper) (S : Bool → World → Prop) (T : World → Prop) (R : Nat → Value → World → Prop) (a0 : Act) (out : List Nat) (jA i : Nat) (o : Oper) : Prop :=
  o.guard = none ∧ ∀ (ρ : Operand → Value) (b : Bool) (w : World), S b w → (i = jA → b = false) → (waitsFor o jA = true → b = true) → (((ops[jA]?).map fun oj => waitsFor oj i).getD false = true → b = false) → (∀ v, ρ (.const v) = v) → (∀ g, ρ (.global g) = .pointer (some ⟨g, 0, none⟩)) → (∀ f, ρ (.func f) = .func (.func f) #[] #[]) →
    (∀ t, (readsOf ops o).contains t = true → R t (ρ (.tmp t)) w) → (∀ t, (dstsOf ops).contains t = false → ρ (.tmp t) = a0.tmps.getD t undef) → PhaseOut P S T R ops out jA i b o w ((execOp ρ o).run P w)

theorem wp_region_phases {id : Nat} {w : World} (hm : P.follows .mixedOrders = true) (hn : (dstsOf ops).Nodup)
    (hafter : ((List.range ops.size).all fun i => ((ops[i]?).map fun o => o.after.all fun e => decide (e.on < i)).getD true) = true)
    {N : Nat} (hN : a0.tmps.size = N) (hs : ((dstsOf ops).all fun t => decide (t < N)) = true) (hb : readsBound ops = true)
    (hst : (ops.toList.any fun o => o.dst.isNone) = true)
    (hA : jA < ops.size) (hS : S false w.drew) (hsteps : ∀ i o, ops[i]? = some o → PhaseRun P ops S T R a0 out jA i o)
    (hend : ∀ (x : Nat → Value) (w' : World), S true w' → (∀ t, (dstsOf ops).contains t = true → t ∈ out → R t (x t) w') → T w' → Q .normal (flowAct a0 ops x) w') : (Code.region id ops true).wp P Q a0 w := by
  have hinj : ∀ (i j : Nat) (a b : Oper) (t : Nat), ops[i]? = some a → ops[j]? = some b → a.dst = some t → b.dst = some t → i = j := fun i j a b t hi hj => by
    refine dst_inj (fun o : Oper => o.dst) ops.toList hn i j a b t ?_ ?_
    · rw [Array.getElem?_toList]; exact hi
    · rw [Array.getElem?_toList]; exact hj
  have hsl : ∀ t, (dstsOf ops).contains t = true → t < a0.tmps.size := fun t ht => by rw [hN]; exact of_decide_eq_true (List.all_eq_true.1 hs t (by simpa using ht))
  refine wp_region_inv (I := fun listed a w' => S (listed.getD jA false) w' ∧ (∃ x, a = flowAct a0 ops x ∧ ∀ i o t, listed.getD i false = true → ops[i]? = some o → o.dst = some t → (t ∈ out ∨ ∃ j oj, ops[j]? = some oj ∧ (readsOf ops oj).contains t = true ∧ listed.getD j false = false) → R t (x t) w') ∧ (∀ i o, listed.getD i false = true → ops[i]? = some o → o.dst = none → T w') ∧ ∀ i o j, listed.getD i false = true → ops[i]? = some o → waitsFor o j = true → listed.getD j false = true) hm ?_ ?_ ?_
  · refine ⟨by rw [show (Array.replicate ops.size false).getD jA false = false by rw [Array.getD_eq_getD_getElem?, Array.getElem?_replicate]; split <;> rfl]; exact hS, ⟨fun t => a0.tmps.getD t undef, ?_, fun i o t h => ?_⟩, fun i o h => ?_, fun i o j h => ?_⟩
    · unfold flowAct
      rw [patch_self]
    · rw [Array.getD_eq_getD_getElem?, Array.getElem?_replicate] at h
      split at h <;> simp at h
    · rw [Array.getD_eq_getD_getElem?, Array.getElem?_replicate] at h
      split at h <;> simp at h
    · rw [Array.getD_eq_getD_getElem?, Array.getElem?_replicate] at h
      split at h <;> simp at h
  · rintro i listed a w' ⟨hSw, ⟨x, rfl, hR⟩, hT, hC⟩ hsz hi
    obtain ⟨hun', hunl⟩ := ready_unlisted hi
    have hunl' : listed.getD i false = false := by
      have h3 : i < listed.size := by omega
      rw [Array.getD_eq_getD_getElem?, Array.getElem?_eq_getElem h3, Option.getD_some] at hunl ⊢
      exact hunl
    obtain ⟨hun, o, ho, hall⟩ := mem_ready.1 hi
    refine wpOp_step ho fun K' hK => ?_
    have hmem : o ∈ ops.toList := by
      rw [Array.mem_toList_iff]
      exact Array.mem_of_getElem? ho
    obtain ⟨hg, hrun⟩ := hsteps i o ho
    have hw : Region.wanted o (yielded ops (flowAct a0 ops x).tmps) = true := by
      unfold Region.wanted
      rw [hg]
    rw [if_pos hw]
    have hrd : ∀ t, (readsOf ops o).contains t = true → R t ((flowAct a0 ops x).eval (.tmp t)) w' := fun t ht => by
      have hmt : t ∈ readsOf ops o := by simpa using ht
      have h1 := List.all_eq_true.1 (List.all_eq_true.1 hb o hmem) t hmt
      obtain ⟨e, he, he2⟩ := Array.any_eq_true'.1 h1
      rw [Bool.and_eq_true, beq_iff_eq] at he2
      have hd : (dstsOf ops).contains t = true := (List.mem_filter.1 hmt).2
      rw [flow_eval x t hd (hsl t hd)]
      have hl := hall e he he2.1
      cases hoe : ops[e.on]? with
      | none => rw [hoe] at he2; simp at he2
      | some oe =>
        rw [hoe] at he2
        exact hR e.on oe t hl hoe (by simpa using he2.2) (.inr ⟨i, o, ho, ht, hunl'⟩)
    have hb2 : waitsFor o jA = true → listed.getD jA false = true := fun hwk => by
      obtain ⟨e, he, he2⟩ := Array.any_eq_true'.1 hwk
      rw [Bool.and_eq_true, beq_iff_eq] at he2
      rw [← he2.2]
      exact hall e he he2.1
    have hb3 : ((ops[jA]?).map fun oj => waitsFor oj i).getD false = true → listed.getD jA false = false := fun hwk => by
      cases hl : listed.getD jA false with
      | false => rfl
      | true =>
        cases hoj : ops[jA]? with
        | none => rw [hoj] at hwk; cases hwk
        | some oj =>
          rw [hoj] at hwk
          have := hC jA oj i hl hoj hwk
          rw [hunl'] at this
          cases this
    have h2 := hrun (flowAct a0 ops x).eval (listed.getD jA false) w' hSw (fun e => by rw [← e]; exact hunl') hb2 hb3 (fun _ => rfl) (fun _ => rfl) (fun _ => rfl) hrd (fun t ht => flow_else x t ht)
    have fin : ∀ v w2, (∀ t, o.dst = some t → R t v w2) → S (listed.getD jA false || i == jA) w2 → (∀ s u, spared ops out i s = false → R s u w' → R s u w2) → (o.dst = none → T w2) → (stored ops i = false → T w' → T w2) → K' ((flowAct a0 ops x).put o.dst v) w2 := by
      intro v w2 hv hS2' hmono hT1 hT2
      have hset : ∀ j, j ≠ i → (listed.setIfInBounds i true).getD j false = listed.getD j false := fun j hji => getD_set_ne false (Ne.symm hji)
      have hseti : (listed.setIfInBounds i true).getD i false = true := by
        rw [Array.getD_eq_getD_getElem?, Array.getElem?_setIfInBounds]
        simp [hsz, hun']
      have hS2 : S ((listed.setIfInBounds i true).getD jA false) w2 := by
        by_cases e : i = jA
        · rw [← e, hseti]
          rw [show (i == jA) = true by simpa using e, Bool.or_true] at hS2'
          exact hS2'
        · rw [hset jA (fun h => e h.symm)]
          rw [show (i == jA) = false by simpa using e, Bool.or_false] at hS2'
          exact hS2'
      have hTT : ∀ j oj, (listed.setIfInBounds i true).getD j false = true → ops[j]? = some oj → oj.dst = none → T w2 := fun j oj hj hoj hd => by
        by_cases hji : j = i
        · subst hji
          rw [ho] at hoj
          cases hoj
          exact hT1 hd
        · rw [hset j hji] at hj
          refine hT2 ?_ (hT j oj hj hoj hd)
          cases hst2 : stored ops i with
          | false => rfl
          | true =>
            have hoj2 : oj ∈ ops.toList := by
              rw [Array.mem_toList_iff]
              exact Array.mem_of_getElem? hoj
            have h5 := List.all_eq_true.1 hst2 oj hoj2
            rw [hd] at h5
            have := hC j oj i hj hoj (by simpa using h5)
            rw [hunl'] at this
            cases this
      have hold : ∀ j, (listed.setIfInBounds i true).getD j false = false → j ≠ i ∧ listed.getD j false = false := fun j h => by
        by_cases e : j = i
        · rw [e, hseti] at h; cases h
        · rw [hset j e] at h; exact ⟨e, h⟩
      have hnew : ∀ j, listed.getD j false = true → (listed.setIfInBounds i true).getD j false = true := fun j h => by
        by_cases e : j = i
        · rw [e]; exact hseti
        · rw [hset j e]; exact h
      have hCC : ∀ j oj k, (listed.setIfInBounds i true).getD j false = true → ops[j]? = some oj → waitsFor oj k = true → (listed.setIfInBounds i true).getD k false = true := fun j oj k hj hoj hwk => by
        by_cases hji : j = i
        · subst hji
          rw [ho] at hoj
          cases hoj
          obtain ⟨e, he, he2⟩ := Array.any_eq_true'.1 hwk
          rw [Bool.and_eq_true, beq_iff_eq] at he2
          rw [← he2.2]
          exact hnew _ (hall e he he2.1)
        · rw [hset j hji] at hj
          exact hnew _ (hC j oj k hj hoj hwk)
      have hlive : ∀ j oj t, j ≠ i → listed.getD j false = true → ops[j]? = some oj → oj.dst = some t → (t ∈ out ∨ ∃ k ok, ops[k]? = some ok ∧ (readsOf ops ok).contains t = true ∧ (listed.setIfInBounds i true).getD k false = false) →
          spared ops out i t = false ∧ (t ∈ out ∨ ∃ k ok, ops[k]? = some ok ∧ (readsOf ops ok).contains t = true ∧ listed.getD k false = false) := fun j oj t hji hj hoj hdt hlv => by
        refine ⟨?_, hlv.imp (fun h => h) fun ⟨k, ok, h1, h2, h3⟩ => ⟨k, ok, h1, h2, (hold k h3).2⟩⟩
        cases hsp : spared ops out i t with
        | false => rfl
        | true =>
          unfold spared at hsp
          rw [Bool.or_eq_true, Bool.or_eq_true, ho, Option.map_some, Option.getD_some] at hsp
          rcases hsp with (h1 | h1) | h1
          · exact absurd (hinj j i oj o t hoj ho hdt (by simpa using h1)) hji
          · obtain ⟨oj2, hm2, h2⟩ := List.any_eq_true.1 h1
            rw [Bool.and_eq_true, beq_iff_eq] at h2
            obtain ⟨j2, hj2⟩ := List.getElem?_of_mem hm2
            rw [Array.getElem?_toList] at hj2
            obtain rfl := hinj j j2 oj oj2 t hoj hj2 hdt h2.1
            rw [hoj] at hj2
            cases hj2
            have := hC j oj i hj hoj h2.2
            rw [hunl'] at this
            cases this
          · rw [Bool.and_eq_true] at h1
            rcases hlv with h | ⟨k, ok, h2, h3, h4⟩
            · have h5 := h1.1
              rw [show out.contains t = true by simpa using h] at h5
              cases h5
            · obtain ⟨hki, hkl⟩ := hold k h4
              have h5 := List.all_eq_true.1 h1.2 k (List.mem_range.2 (Array.getElem?_eq_some_iff.1 h2).1)
              rw [Bool.or_eq_true, Bool.or_eq_true, beq_iff_eq, h2, Option.map_some, Option.getD_some, h3] at h5
              rcases h5 with (h5 | h5) | h5
              · exact absurd h5 hki
              · cases h5
              · rw [Option.map_some, Option.getD_some] at h5
                obtain ⟨e, he, he2⟩ := Array.any_eq_true'.1 h5
                rw [Bool.and_eq_true, beq_iff_eq] at he2
                have := hall e he he2.1
                rw [he2.2, hkl] at this
                cases this
      cases hd : o.dst with
      | none =>
        refine hK _ _ ⟨hS2, ⟨x, rfl, fun j oj t hj hoj hdt hk' => ?_⟩, hTT, hCC⟩
        have hji : j ≠ i := fun e => by subst e; rw [ho] at hoj; cases hoj; rw [hd] at hdt; cases hdt
        rw [hset j hji] at hj
        exact hmono _ _ (hlive j oj t hji hj hoj hdt hk').1 (hR j oj t hj hoj hdt (hlive j oj t hji hj hoj hdt hk').2)
      | some t0 =>
        refine hK _ _ ⟨hS2, ⟨upd x t0 v, ?_, fun j oj t hj hoj hdt hk' => ?_⟩, hTT, hCC⟩
        · unfold flowAct Act.put
          simp only
          rw [patch_put]
          exact List.mem_filterMap.2 ⟨o, hmem, hd⟩
        · by_cases hji : j = i
          · subst hji
            rw [ho] at hoj
            cases hoj
            rw [hd] at hdt
            cases hdt
            rw [show upd x t0 v t0 = v by simp [upd]]
            exact hv t0 hd
          · have hne : t ≠ t0 := fun e => hji (hinj j i oj o t hoj ho hdt (by rw [e]; exact hd))
            rw [hset j hji] at hj
            rw [show upd x t0 v t = x t by simp [upd, hne]]
            exact hmono _ _ (hlive j oj t hji hj hoj hdt hk').1 (hR j oj t hj hoj hdt (hlive j oj t hji hj hoj hdt hk').2)
    unfold Oper.wp
    generalize (execOp (flowAct a0 ops x).eval o).run P w' = res at h2
    match res, h2 with
    | .ok (.value v) w2, ⟨h3, h4, h5, h6, h7⟩ => exact fin v w2 h3 h4 h5 h6 h7
    | .ok (.enter f args) w2, h3 =>
      refine Calls.mono h3 ?_
      rintro e w'' ⟨v, rfl, h4, h5, h6, h7, h8⟩
      exact fin v w'' h4 h5 h6 h7 h8
    | .ok .skip w2, ⟨h3, h4, h5, h6⟩ =>
      exact fin undef w2 (fun t ht => by rw [h3] at ht; cases ht) h4 h5 (fun _ => h6) (fun _ _ => h6)
  · rintro listed a w' ⟨hSw, ⟨x, rfl, hR⟩, hT, -⟩ hsz hr
    have hall := ready_nil hsz (fun i o ho e he => by
      have h1 := List.all_eq_true.1 hafter i (List.mem_range.2 (Array.getElem?_eq_some_iff.1 ho).1)
      rw [ho, Option.map_some, Option.getD_some, Array.all_eq_true_iff_forall_mem] at h1
      exact of_decide_eq_true (h1 e he)) hr
    rw [hall jA hA] at hSw
    refine hend x w' hSw (fun t ht htk => ?_) ?_
    · have ht' : t ∈ ops.toList.filterMap (·.dst) := by simpa [dstsOf] using ht
      obtain ⟨o, ho, hd⟩ := List.mem_filterMap.1 ht'
      obtain ⟨i, hi⟩ := List.getElem?_of_mem ho
      rw [Array.getElem?_toList] at hi
      exact hR i o t (hall i (Array.getElem?_eq_some_iff.1 hi).1) hi hd (.inl htk)
    · obtain ⟨o, ho, hd⟩ := List.any_eq_true.1 hst
      obtain ⟨i, hi⟩ := List.getElem?_of_mem ho
      rw [Array.getElem?_toList] at hi
      exact hT i o (hall i (Array.getElem?_eq_some_iff.1 hi).1) hi (by simpa using hd)

theorem wp_region_phases' {id : Nat} {w : World} (hm : P.follows .mixedOrders = true) (hn : (dstsOf ops).Nodup)
    (hafter : ((List.range ops.size).all fun i => ((ops[i]?).map fun o => o.after.all fun e => decide (e.on < i)).getD true) = true)
    {N : Nat} (hN : a0.tmps.size = N) (hs : ((dstsOf ops).all fun t => decide (t < N)) = true) (hb : readsBound ops = true)
    (hst : (ops.toList.any fun o => o.dst.isNone) = true)
    (hA : jA < ops.size) (hS : S false w.drew) (hsteps : KeepAll (fun i o => PhaseRun P ops S T R a0 out jA i o) ops.toList 0)
    (hend : ∀ (x : Nat → Value) (w' : World), S true w' → (∀ t, (dstsOf ops).contains t = true → t ∈ out → R t (x t) w') → T w' → Q .normal (flowAct a0 ops x) w') : (Code.region id ops true).wp P Q a0 w :=
  wp_region_phases hm hn hafter hN hs hb hst hA hS (fun i o h => by
    have := hsteps.at_ i o (by rw [Array.getElem?_toList]; exact h)
    rwa [Nat.zero_add] at this) hend

theorem phase_pure {t i : Nat} {b : Bool} {o : Oper} {v : Value} {w : World} (hd : o.dst = some t) (hv : R t v w) (hS : S b w) (hij : (i == jA) = false) (hr : (execOp ρ o).run P w = .ok (.value v) w) : PhaseOut P S T R ops out jA i b o w ((execOp ρ o).run P w) := by
  rw [hr]
  exact ⟨fun t' ht => (by rw [hd] at ht; cases ht; exact hv), by rw [hij, Bool.or_false]; exact hS, fun _ _ _ h => h, fun h => (by rw [hd] at h; cases h), fun _ h => h⟩
theorem phase_new {t i : Nat} {b : Bool} {o : Oper} {v : Value} {w w' : World} (hd : o.dst = some t) (hr : (execOp ρ o).run P w = .ok (.value v) w') (hv : R t v w') (hS : S (b || i == jA) w') (hm : ∀ s u, spared ops out i s = false → R s u w → R s u w') (hT : stored ops i = false → T w → T w') : PhaseOut P S T R ops out jA i b o w ((execOp ρ o).run P w) := by
  rw [hr]
  exact ⟨fun t' ht => (by rw [hd] at ht; cases ht; exact hv), hS, hm, fun h => (by rw [hd] at h; cases h), hT⟩
theorem phase_store {i : Nat} {b : Bool} {o : Oper} {w w' : World} (hd : o.dst = none) (hr : (execOp ρ o).run P w = .ok .skip w') (hS : S (b || i == jA) w') (hm : ∀ s u, spared ops out i s = false → R s u w → R s u w') (hT : T w') : PhaseOut P S T R ops out jA i b o w ((execOp ρ o).run P w) := by
  rw [hr]
  exact ⟨hd, hS, hm, hT⟩
end
end Go.Proofs.YtbicafmlbknkiaaGreatDoor
