/- A region that draws its order, by what each operation yields of what those before it yielded (no order is walked). -/
import Derived.RegionTactic
import Derived.Test.YtgjpbffoalldkaaGreatDoorWU
namespace Go.Proofs.YtgjpbffoalldkaaGreatDoor
open Go

/-- A statement that no tactic looks into. -/
def FShut (p : Prop) : Prop := p
theorem FShut.out {p : Prop} (h : FShut p) : p := h

/-- Slots that hold what x says. -/
def patch (ts : Array Value) (x : Nat → Value) : List Nat → Array Value
  | [] => ts
  | t :: l => (patch ts x l).setIfInBounds t (x t)
def upd (x : Nat → Value) (t : Nat) (v : Value) (s : Nat) : Value := if s = t then v else x s
theorem patch_size (ts : Array Value) (x : Nat → Value) : ∀ l, (patch ts x l).size = ts.size
  | [] => rfl
  | t :: l => by rw [patch, Array.size_setIfInBounds, patch_size ts x l]
theorem patch_get (ts : Array Value) (x : Nat → Value) (s : Nat) : ∀ l, (patch ts x l)[s]? = if s ∈ l ∧ s < ts.size then some (x s) else ts[s]?
  | [] => by simp [patch]
  | t :: l => by
    rw [patch, Array.getElem?_setIfInBounds, patch_size, patch_get ts x s l]
    by_cases h : t = s
    · subst h
      by_cases h2 : t < ts.size
      · simp [h2]
      · simp [h2]
    · have h' : ¬ s = t := fun e => h e.symm
      simp [h, h']
theorem patch_put (ts : Array Value) (x : Nat → Value) (l : List Nat) (t : Nat) (v : Value) (ht : t ∈ l) : (patch ts x l).setIfInBounds t v = patch ts (upd x t v) l := by
  apply Array.ext_getElem?
  intro s
  rw [Array.getElem?_setIfInBounds, patch_size, patch_get, patch_get]
  by_cases h : t = s
  · subst h
    by_cases h2 : t < ts.size
    · simp [h2, ht, upd]
    · simp [h2]
  · have h' : ¬ s = t := fun e => h e.symm
    simp [h, upd, h']
theorem patch_self (ts : Array Value) (l : List Nat) : patch ts (fun t => ts.getD t undef) l = ts := by
  apply Array.ext_getElem?
  intro s
  rw [patch_get]
  by_cases h : s ∈ l ∧ s < ts.size
  · rw [if_pos h, Array.getD_eq_getD_getElem?, Array.getElem?_eq_getElem h.2]
    rfl
  · rw [if_neg h]

theorem dst_inj {α : Type} (f : α → Option Nat) : ∀ (l : List α), (l.filterMap f).Nodup → ∀ (i j : Nat) (a b : α) (t : Nat), l[i]? = some a → l[j]? = some b → f a = some t → f b = some t → i = j
  | [], _, i, j, a, b, t, hi, _, _, _ => by simp at hi
  | c :: l, hn, i, j, a, b, t, hi, hj, ha, hb => by
    have hn' : (l.filterMap f).Nodup := by
      rw [List.filterMap_cons] at hn
      cases hc : f c with
      | none => rw [hc] at hn; exact hn
      | some u => rw [hc] at hn; exact (List.nodup_cons.1 hn).2
    have key : ∀ (k : Nat) (d : α), l[k]? = some d → f d = some t → f c = some t → False := fun k d hk hd hc => by
      rw [List.filterMap_cons, hc] at hn
      exact (List.nodup_cons.1 hn).1 (List.mem_filterMap.2 ⟨d, List.mem_of_getElem? hk, hd⟩)
    cases i with
    | zero =>
      cases j with
      | zero => rfl
      | succ j =>
        simp at hi hj
        subst hi
        exact (key j b hj hb ha).elim
    | succ i =>
      cases j with
      | zero =>
        simp at hi hj
        subst hj
        exact (key i a hi ha hb).elim
      | succ j =>
        simp at hi hj
        rw [dst_inj f l hn' i j a b t hi hj ha hb]

section
variable {P : Program} {ops : Array Oper} {Q : Exit → Act → World → Prop} {S : World → Prop} {R : Nat → Value → World → Prop} {a0 : Act}

/-- The frame in which the region's slots hold what x says. -/
def flowAct (a0 : Act) (ops : Array Oper) (x : Nat → Value) : Act := ⟨patch a0.tmps x (ops.toList.filterMap (·.dst)), a0.defers⟩

/-- What one operation owes. -/
def FlowStep (P : Program) (ops : Array Oper) (Q : Exit → Act → World → Prop) (S : World → Prop) (R : Nat → Value → World → Prop) (a0 : Act) (o : Oper) : Prop :=
  ∀ (x : Nat → Value) (w : World), S w → (∀ e ∈ o.after, Region.binds .any e = true → ∀ t, ((ops[e.on]?).bind (·.dst)) = some t → R t (x t) w) →
    ∀ K : Act → World → Prop, FShut (∀ v w', (∀ t, o.dst = some t → R t v w') → S w' → (∀ s u, R s u w → R s u w') → K ((flowAct a0 ops x).put o.dst v) w') →
      if Region.wanted o (yielded ops (flowAct a0 ops x).tmps) = true then Oper.wp P o (flowAct a0 ops x) w K Q else K ((flowAct a0 ops x).put o.dst undef) w

theorem wp_region_flow {id : Nat} {w : World} (hm : P.follows .mixedOrders = true) (hn : (ops.toList.filterMap (·.dst)).Nodup)
    (hafter : ((List.range ops.size).all fun i => ((ops[i]?).map fun o => o.after.all fun e => decide (e.on < i)).getD true) = true)
    (hS : S w.drew) (hsteps : ∀ o ∈ ops.toList, FlowStep P ops Q S R a0 o)
    (hend : ∀ (x : Nat → Value) (w' : World), S w' → (∀ t ∈ ops.toList.filterMap (·.dst), R t (x t) w') → Q .normal (flowAct a0 ops x) w') : (Code.region id ops true).wp P Q a0 w := by
  have hinj : ∀ (i j : Nat) (a b : Oper) (t : Nat), ops[i]? = some a → ops[j]? = some b → a.dst = some t → b.dst = some t → i = j := fun i j a b t hi hj => by
    refine dst_inj (fun o : Oper => o.dst) ops.toList hn i j a b t ?_ ?_
    · rw [Array.getElem?_toList]; exact hi
    · rw [Array.getElem?_toList]; exact hj
  refine wp_region_inv (I := fun listed a w' => S w' ∧ ∃ x, a = flowAct a0 ops x ∧ ∀ i o t, listed.getD i false = true → ops[i]? = some o → o.dst = some t → R t (x t) w') hm ?_ ?_ ?_
  · refine ⟨hS, fun t => a0.tmps.getD t undef, ?_, fun i o t h => ?_⟩
    · unfold flowAct
      rw [patch_self]
    · rw [Array.getD_eq_getD_getElem?, Array.getElem?_replicate] at h
      split at h <;> simp at h
  · rintro i listed a w' ⟨hSw, x, rfl, hR⟩ hsz hi
    obtain ⟨hun, o, ho, hall⟩ := mem_ready.1 hi
    refine wpOp_step ho fun K' hK => ?_
    have hmem : o ∈ ops.toList := by
      rw [Array.mem_toList_iff]
      exact Array.mem_of_getElem? ho
    refine hsteps o hmem x w' hSw (fun e he hb t ht => ?_) K' fun v w2 hv hS2 hmono => hK _ _ ⟨hS2, ?_⟩
    · have hl := hall e he hb
      cases hoe : ops[e.on]? with
      | none => rw [hoe] at ht; simp at ht
      | some oe => rw [hoe] at ht; exact hR e.on oe t hl hoe ht
    · cases hd : o.dst with
      | none =>
        refine ⟨x, rfl, fun j oj t hj hoj hdt => ?_⟩
        have hji : j ≠ i := fun e => by subst e; rw [ho] at hoj; cases hoj; rw [hd] at hdt; cases hdt
        rw [getD_set_ne false (Ne.symm hji)] at hj
        exact hmono _ _ (hR j oj t hj hoj hdt)
      | some t0 =>
        refine ⟨upd x t0 v, ?_, fun j oj t hj hoj hdt => ?_⟩
        · unfold flowAct Act.put
          simp only
          rw [patch_put]
          exact List.mem_filterMap.2 ⟨o, hmem, hd⟩
        · by_cases hji : j = i
          · subst hji
            rw [ho] at hoj
            cases hoj
            rw [hd] at hdt
            cases hdt
            rw [show upd x t0 v t0 = v by simp [upd]]
            exact hv t0 hd
          · have hne : t ≠ t0 := fun e => hji (hinj j i oj o t hoj ho hdt (by rw [e]; exact hd))
            rw [getD_set_ne false (Ne.symm hji)] at hj
            rw [show upd x t0 v t = x t by simp [upd, hne]]
            exact hmono _ _ (hR j oj t hj hoj hdt)
  · rintro listed a w' ⟨hSw, x, rfl, hR⟩ hsz hr
    have hall := ready_nil hsz (fun i o ho e he => by
      have h1 := List.all_eq_true.1 hafter i (List.mem_range.2 (Array.getElem?_eq_some_iff.1 ho).1)
      rw [ho, Option.map_some, Option.getD_some, Array.all_eq_true_iff_forall_mem] at h1
      exact of_decide_eq_true (h1 e he)) hr
    refine hend x w' hSw fun t ht => ?_
    obtain ⟨o, ho, hd⟩ := List.mem_filterMap.1 ht
    obtain ⟨i, hi⟩ := List.getElem?_of_mem ho
    rw [Array.getElem?_toList] at hi
    exact hR i o t (hall i (Array.getElem?_eq_some_iff.1 hi).1) hi hd

/-- The slots that the region writes; those of them that an operation reads. -/
def dstsOf (ops : Array Oper) : List Nat := ops.toList.filterMap (·.dst)
def readsOf (ops : Array Oper) (o : Oper) : List Nat := (o.op.operands.toList.filterMap fun | .tmp t => some t | _ => none).filter fun t => (dstsOf ops).contains t
/-- Each slot of the region's that an operation reads is one that it waits for. -/
def readsBound (ops : Array Oper) : Bool := ops.toList.all fun o => (readsOf ops o).all fun t => o.after.any fun e => Region.binds .any e && ((ops[e.on]?).bind (·.dst) == some t)

/-- What an operation's run owes. -/
def FlowOut (P : Program) (S : World → Prop) (R : Nat → Value → World → Prop) (o : Oper) (w : World) : Result Next → Prop
  | .ok (.value v) w' => (∀ t, o.dst = some t → R t v w') ∧ S w' ∧ ∀ s u, R s u w → R s u w'
  | .ok (.enter f args) w' => Calls P f args w' fun e w'' => ∃ v, e = .returned v ∧ (∀ t, o.dst = some t → R t v w'') ∧ S w'' ∧ ∀ s u, R s u w → R s u w''
  | _ => False
/-- The same, of one operation, whatever the frame is. -/
def FlowRun (P : Program) (ops : Array Oper) (S : World → Prop) (R : Nat → Value → World → Prop) (a0 : Act) (o : Oper) : Prop :=
  o.guard = none ∧ ∀ (ρ : Operand → Value) (w : World), S w → (∀ v, ρ (.const v) = v) → (∀ g, ρ (.global g) = .pointer (some ⟨g, 0, none⟩)) → (∀ f, ρ (.func f) = .func (.func f) #[] #[]) →
    (∀ t, (readsOf ops o).contains t = true → R t (ρ (.tmp t)) w) → (∀ t, (dstsOf ops).contains t = false → ρ (.tmp t) = a0.tmps.getD t undef) → FlowOut P S R o w ((execOp ρ o).run P w)

theorem flow_eval (x : Nat → Value) (t : Nat) (ht : (dstsOf ops).contains t = true) (hs : t < a0.tmps.size) : (flowAct a0 ops x).eval (.tmp t) = x t := by
  unfold flowAct Act.eval
  simp only
  rw [Array.getD_eq_getD_getElem?, patch_get, if_pos ⟨by simpa [dstsOf] using ht, hs⟩]
  rfl
theorem flow_else (x : Nat → Value) (t : Nat) (ht : (dstsOf ops).contains t = false) : (flowAct a0 ops x).eval (.tmp t) = a0.tmps.getD t undef := by
  have h : ¬ (t ∈ ops.toList.filterMap (·.dst) ∧ t < a0.tmps.size) := fun h => by
    have h1 : (dstsOf ops).contains t = true := by simpa [dstsOf] using h.1
    rw [ht] at h1; cases h1
  unfold flowAct Act.eval
  simp only
  rw [Array.getD_eq_getD_getElem?, patch_get, if_neg h, Array.getD_eq_getD_getElem?]
theorem flowStep_of (hs : ∀ t, (dstsOf ops).contains t = true → t < a0.tmps.size) (hb : readsBound ops = true) {o : Oper} (ho : o ∈ ops.toList) (h : FlowRun P ops S R a0 o) : FlowStep P ops Q S R a0 o := by
  obtain ⟨hg, h⟩ := h
  intro x w hS ha K hK
  have hw : Region.wanted o (yielded ops (flowAct a0 ops x).tmps) = true := by
    unfold Region.wanted
    rw [hg]
  rw [if_pos hw]
  have hrd : ∀ t, (readsOf ops o).contains t = true → R t ((flowAct a0 ops x).eval (.tmp t)) w := fun t ht => by
    have hmem : t ∈ readsOf ops o := by simpa using ht
    have h1 := List.all_eq_true.1 (List.all_eq_true.1 hb o ho) t hmem
    obtain ⟨e, he, he2⟩ := Array.any_eq_true'.1 h1
    rw [Bool.and_eq_true, beq_iff_eq] at he2
    have hd : (dstsOf ops).contains t = true := (List.mem_filter.1 hmem).2
    rw [flow_eval x t hd (hs t hd)]
    exact ha e he he2.1 t he2.2
  have h2 := h (flowAct a0 ops x).eval w hS (fun _ => rfl) (fun _ => rfl) (fun _ => rfl) hrd (fun t ht => flow_else x t ht)
  unfold Oper.wp
  generalize (execOp (flowAct a0 ops x).eval o).run P w = res at h2
  match res, h2 with
  | .ok (.value v) w', ⟨h3, h4, h5⟩ => exact hK.out v w' h3 h4 h5
  | .ok (.enter f args) w', h3 =>
    refine Calls.mono h3 ?_
    rintro e w'' ⟨v, rfl, h4, h5, h6⟩
    exact hK.out v w'' h4 h5 h6

/-- A REGION THAT DRAWS ITS ORDER, OPERATION BY OPERATION. -/
theorem wp_region_flows {id : Nat} {w : World} (hm : P.follows .mixedOrders = true) (hn : (dstsOf ops).Nodup)
    (hafter : ((List.range ops.size).all fun i => ((ops[i]?).map fun o => o.after.all fun e => decide (e.on < i)).getD true) = true)
    {N : Nat} (hN : a0.tmps.size = N) (hs : ((dstsOf ops).all fun t => decide (t < N)) = true) (hb : readsBound ops = true)
    (hS : S w.drew) (hsteps : ∀ o ∈ ops.toList, FlowRun P ops S R a0 o)
    (hend : ∀ (x : Nat → Value) (w' : World), S w' → (∀ t, (dstsOf ops).contains t = true → R t (x t) w') → Q .normal (flowAct a0 ops x) w') : (Code.region id ops true).wp P Q a0 w :=
  wp_region_flow hm hn hafter hS (fun o ho => flowStep_of (fun t ht => by rw [hN]; exact of_decide_eq_true (List.all_eq_true.1 hs t (by simpa using ht))) hb ho (hsteps o ho)) (fun x w' h1 h2 => hend x w' h1 fun t ht => h2 t (by simpa [dstsOf] using ht))
end
end Go.Proofs.YtgjpbffoalldkaaGreatDoor
