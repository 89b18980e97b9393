/- Regions that draw their order and turn the world step by step (no order is walked). -/
import Derived.RegionTactic
import Derived.Orders
import Derived.OrdersIn
import Derived.RangeFuncCalls
namespace Go.Proofs.Ytanjkhclhcnnaaa
open Go

section
variable {P : Program} {ops : Array Oper} {Q : Exit → Act → World → Prop} {md : Region.Mode}

theorem ready_unlisted {listed : Array Bool} {i : Nat} (h : i ∈ Region.ready md ops listed) : i < ops.size ∧ listed.getD i true = false := by
  unfold Region.ready at h
  rw [List.mem_filter, Bool.and_eq_true, List.mem_range] at h
  exact ⟨h.1, by simpa using h.2.1⟩

/-- One operation, by what it does alone. -/
def wpOpL (P : Program) (ops : Array Oper) (Q : Exit → Act → World → Prop) (i : Nat) (K : Act → World → Prop) (a : Act) (w : World) : Prop :=
  match ops[i]? with
  | none => K a w
  | some o => if Region.wanted o (yielded ops a.tmps) then o.wp P a w K Q else K (a.put o.dst undef) w
theorem wpOpL_mono {i : Nat} {a : Act} {w : World} {K K' : Act → World → Prop} (h : ∀ a w, K a w → K' a w) (hh : wpOpL P ops Q i K a w) : wpOpL P ops Q i K' a w := by
  unfold wpOpL at *
  split
  · exact h _ _ (by simpa [*] using hh)
  · rename_i o ho
    simp only [ho] at hh
    split
    · rename_i hw; simp only [hw, if_true] at hh; exact Oper.wp_mono h hh
    · rename_i hw; simp only [hw] at hh; exact h _ _ hh
/-- Whatever order is drawn. -/
def wpAll (P : Program) (ops : Array Oper) (Q : Exit → Act → World → Prop) : Nat → Array Bool → Act → World → Prop
  | 0, listed, a, w => Region.ready .any ops listed = [] ∧ Q .normal a w
  | fuel + 1, listed, a, w =>
    (Region.ready .any ops listed = [] → Q .normal a w) ∧
    ∀ i ∈ Region.ready .any ops listed, wpOpL P ops Q i (wpAll P ops Q fuel (listed.setIfInBounds i true)) a w
theorem wpAny_of_all : ∀ {fuel : Nat} {listed : Array Bool} {a : Act} {w : World}, wpAll P ops Q fuel listed a w → wpAny P .any ops Q fuel listed a w
  | 0, _, _, _, h => h
  | fuel + 1, listed, a, w, h => ⟨h.1, fun i hi => by
      have h2 := h.2 i hi
      unfold wpOpL at h2
      unfold wpOp
      split
      · rename_i ho; simp only [ho] at h2; exact wpAny_of_all h2
      · rename_i o ho
        simp only [ho] at h2
        split
        · rename_i hw; simp only [hw, if_true] at h2; exact .inl (Oper.wp_mono (fun a w h => wpAny_of_all h) h2)
        · rename_i hw; simp only [hw] at h2; exact wpAny_of_all h2⟩
/-- In a round of a loop over a function: what an operation does outside it does there too. -/
theorem wpIn_of_wp {o : Oper} {l n : Nat} {a : Act} {w : World} {K : Act → World → Prop} (hd : ∀ c, o.op ≠ .defer c) (h : o.wp P a w K Q) (hr : ∀ row args w', (execOp a.eval o).run P w ≠ .ok (.row row args) w') : o.wpIn (Fence.wide.inRound l) n P a w K Q := by
  refine ⟨fun _ _ => trivial, ?_⟩
  rw [Oper.semAt_eq _ _ _ hd]
  unfold Oper.wp at h
  generalize (execOp a.eval o).run P w = r at *
  match r, h with
  | .ok (.value v) w', h => exact h
  | .ok .skip w', h => exact h
  | .ok (.defer d) w', h => exact h
  | .ok (.enter f args) w', h => exact ⟨(fun (hz : _ = true) => Bool.noConfusion (show false = true from hz)), CallsIn.inRound l (callsIn_wide.2 h)⟩
  | .ok (.row row args) w', _ => exact absurd rfl (hr row args w')
  | .halt (.panic v) w', h => exact h
theorem wpAnyIn_of_all {l n : Nat} (hd : ∀ o ∈ ops.toList, (∀ c, o.op ≠ .defer c) ∧ ∀ ρ w row args w', (execOp ρ o).run P w ≠ .ok (.row row args) w') : ∀ {fuel : Nat} {listed : Array Bool} {a : Act} {w : World}, wpAll P ops Q fuel listed a w → wpAnyIn (Fence.wide.inRound l) n P .any ops Q fuel listed a w
  | 0, _, _, _, h => h
  | fuel + 1, listed, a, w, h => ⟨h.1, fun i hi => by
      have h2 := h.2 i hi
      unfold wpOpL at h2
      unfold wpOpIn
      split
      · rename_i ho; simp only [ho] at h2; exact wpAnyIn_of_all hd h2
      · rename_i o ho
        simp only [ho] at h2
        have hm : o ∈ ops.toList := by rw [Array.mem_toList_iff]; exact Array.mem_of_getElem? ho
        obtain ⟨hd1, hd2⟩ := hd o hm
        split
        · rename_i hw; simp only [hw, if_true] at h2; exact wpIn_of_wp hd1 (Oper.wp_mono (fun a w h => wpAnyIn_of_all hd h) h2) (hd2 _ _)
        · rename_i hw; simp only [hw] at h2; exact ⟨fun _ _ => trivial, wpAnyIn_of_all hd h2⟩⟩

/-- WHAT HOLDS OF THE LISTED, THE FRAME AND THE WORLD AT THE START, AND IS KEPT BY EACH OPERATION THAT IS READY, HOLDS AT THE END. -/
theorem wpAll_inv {I : Array Bool → Act → World → Prop} (hstep : ∀ i listed a w, I listed a w → listed.size = ops.size → i ∈ Region.ready .any ops listed → wpOpL P ops Q i (I (listed.setIfInBounds i true)) a w)
    (hend : ∀ listed a w, I listed a w → listed.size = ops.size → Region.ready .any ops listed = [] → Q .normal a w) :
    ∀ (fuel : Nat) (listed : Array Bool) (a : Act) (w : World), listed.size = ops.size → listed.toList.countP (!·) ≤ fuel → I listed a w → wpAll P ops Q fuel listed a w
  | 0, listed, a, w, hs, hc, hI => by
    have h0 : Region.ready .any ops listed = [] := by
      rw [List.eq_nil_iff_forall_not_mem]
      intro i hi
      obtain ⟨h1, h2⟩ := ready_unlisted hi
      have h3 : i < listed.size := by omega
      have h4 : listed.toList.countP (!·) = 0 := by omega
      rw [List.countP_eq_zero] at h4
      have h5 := h4 listed[i] (by simp)
      rw [Array.getD_eq_getD_getElem?, Array.getElem?_eq_getElem h3, Option.getD_some] at h2
      rw [h2] at h5
      exact h5 rfl
    exact ⟨h0, hend _ _ _ hI hs h0⟩
  | fuel + 1, listed, a, w, hs, hc, hI => by
    refine ⟨fun h => hend _ _ _ hI hs h, fun i hi => wpOpL_mono (fun a' w' h => ?_) (hstep i listed a w hI hs hi)⟩
    obtain ⟨h1, h2⟩ := ready_unlisted hi
    have h3 : i < listed.size := by omega
    rw [Array.getD_eq_getD_getElem?, Array.getElem?_eq_getElem h3, Option.getD_some] at h2
    refine wpAll_inv hstep hend fuel _ a' w' (by simpa using hs) ?_ h
    have e : (listed.setIfInBounds i true).toList = listed.toList.set i true := by simp
    rw [e, List.countP_set (by simpa using h3)]
    simp only [Array.getElem_toList, h2, Bool.not_false, Bool.not_true, if_true, Bool.false_eq_true, if_false]
    omega
theorem wpAll_start {I : Array Bool → Act → World → Prop} {a : Act} {w : World}
    (hstart : I (Array.replicate ops.size false) a w)
    (hstep : ∀ i listed a w, I listed a w → listed.size = ops.size → i ∈ Region.ready .any ops listed → wpOpL P ops Q i (I (listed.setIfInBounds i true)) a w)
    (hend : ∀ listed a w, I listed a w → listed.size = ops.size → Region.ready .any ops listed = [] → Q .normal a w) : wpAll P ops Q ops.size (Array.replicate ops.size false) a w :=
  wpAll_inv hstep hend _ _ _ _ (by simp) (by have := List.countP_le_length (p := (!·)) (l := (Array.replicate ops.size false).toList); simpa using this) hstart

/-- Where each operation waits for earlier ones only, nothing is ready only at the end. -/
theorem ready_nil {listed : Array Bool} (hs : listed.size = ops.size) (he : ∀ i (o : Oper), ops[i]? = some o → ∀ e ∈ o.after, e.on < i) (h : Region.ready md ops listed = []) : ∀ i, i < ops.size → listed.getD i false = true := by
  intro i
  induction i using Nat.strongRecOn with
  | ind i ih =>
    intro hi
    cases hl : listed.getD i false with
    | true => rfl
    | false =>
      have hm : i ∈ Region.ready md ops listed := by
        unfold Region.ready
        rw [List.mem_filter, List.mem_range, Bool.and_eq_true]
        refine ⟨hi, ?_, ?_⟩
        · rw [Array.getD_eq_getD_getElem?, Array.getElem?_eq_getElem (by omega)] at hl ⊢
          simpa using hl
        · rw [Array.getElem?_eq_getElem hi]
          simp only [Option.map_some, Option.getD_some]
          rw [Array.all_eq_true_iff_forall_mem]
          intro e hem
          have hlt := he i ops[i] (Array.getElem?_eq_getElem hi) e hem
          rw [ih e.on hlt (by omega)]
          simp
      rw [h] at hm
      cases hm
end
/-- Slots that hold what x says. -/
def patch (ts : Array Value) (x : Nat → Value) : List Nat → Array Value
  | [] => ts
  | t :: l => (patch ts x l).setIfInBounds t (x t)
def upd (x : Nat → Value) (t : Nat) (v : Value) (s : Nat) : Value := if s = t then v else x s
theorem patch_size (ts : Array Value) (x : Nat → Value) : ∀ l, (patch ts x l).size = ts.size
  | [] => rfl
  | t :: l => by rw [patch, Array.size_setIfInBounds, patch_size ts x l]
theorem patch_get (ts : Array Value) (x : Nat → Value) (s : Nat) : ∀ l, (patch ts x l)[s]? = if s ∈ l ∧ s < ts.size then some (x s) else ts[s]?
  | [] => by simp [patch]
  | t :: l => by
    rw [patch, Array.getElem?_setIfInBounds, patch_size, patch_get ts x s l]
    by_cases h : t = s
    · subst h
      by_cases h2 : t < ts.size
      · simp [h2]
      · simp [h2]
    · have h' : ¬ s = t := fun e => h e.symm
      simp [h, h']
theorem patch_put (ts : Array Value) (x : Nat → Value) (l : List Nat) (t : Nat) (v : Value) (ht : t ∈ l) : (patch ts x l).setIfInBounds t v = patch ts (upd x t v) l := by
  apply Array.ext_getElem?
  intro s
  rw [Array.getElem?_setIfInBounds, patch_size, patch_get, patch_get]
  by_cases h : t = s
  · subst h
    by_cases h2 : t < ts.size
    · simp [h2, ht, upd]
    · simp [h2]
  · have h' : ¬ s = t := fun e => h e.symm
    simp [h, upd, h']
theorem patch_self (ts : Array Value) (l : List Nat) : patch ts (fun t => ts.getD t undef) l = ts := by
  apply Array.ext_getElem?
  intro s
  rw [patch_get]
  by_cases h : s ∈ l ∧ s < ts.size
  · rw [if_pos h, Array.getD_eq_getD_getElem?, Array.getElem?_eq_getElem h.2]
    rfl
  · rw [if_neg h]

theorem dst_inj {α : Type} (f : α → Option Nat) : ∀ (l : List α), (l.filterMap f).Nodup → ∀ (i j : Nat) (a b : α) (t : Nat), l[i]? = some a → l[j]? = some b → f a = some t → f b = some t → i = j
  | [], _, i, j, a, b, t, hi, _, _, _ => by simp at hi
  | c :: l, hn, i, j, a, b, t, hi, hj, ha, hb => by
    have hn' : (l.filterMap f).Nodup := by
      rw [List.filterMap_cons] at hn
      cases hc : f c with
      | none => rw [hc] at hn; exact hn
      | some u => rw [hc] at hn; exact (List.nodup_cons.1 hn).2
    have key : ∀ (k : Nat) (d : α), l[k]? = some d → f d = some t → f c = some t → False := fun k d hk hd hc => by
      rw [List.filterMap_cons, hc] at hn
      exact (List.nodup_cons.1 hn).1 (List.mem_filterMap.2 ⟨d, List.mem_of_getElem? hk, hd⟩)
    cases i with
    | zero =>
      cases j with
      | zero => rfl
      | succ j =>
        simp at hi hj
        subst hi
        exact (key j b hj hb ha).elim
    | succ i =>
      cases j with
      | zero =>
        simp at hi hj
        subst hj
        exact (key i a hi ha hb).elim
      | succ j =>
        simp at hi hj
        rw [dst_inj f l hn' i j a b t hi hj ha hb]

section
variable {P : Program} {ops : Array Oper} {Q : Exit → Act → World → Prop} {a0 : Act} {I : Nat → (Nat → Value) → World → Prop} {V : (Nat → Value) → Nat → Value} {eff : Nat → Bool} {need till : Nat → Nat} {m : Nat}

/-- The frame in which the region's slots hold what x says. -/
def flowAct (a0 : Act) (ops : Array Oper) (x : Nat → Value) : Act := ⟨patch a0.tmps x (ops.toList.filterMap (·.dst)), a0.defers⟩
/-- The slots that the region writes; those of them that an operation reads. -/
def dstsOf (ops : Array Oper) : List Nat := ops.toList.filterMap (·.dst)
def readsOf (ops : Array Oper) (o : Oper) : List Nat := (o.op.operands.toList.filterMap fun | .tmp t => some t | _ => none).filter fun t => (dstsOf ops).contains t
/-- Each slot of the region's that an operation reads is one that it waits for. -/
def readsBound (ops : Array Oper) : Bool := ops.toList.all fun o => (readsOf ops o).all fun t => o.after.any fun e => Region.binds .any e && ((ops[e.on]?).bind (·.dst) == some t)
theorem flow_eval (x : Nat → Value) (t : Nat) (ht : (dstsOf ops).contains t = true) (hs : t < a0.tmps.size) : (flowAct a0 ops x).eval (.tmp t) = x t := by
  unfold flowAct Act.eval
  simp only
  rw [Array.getD_eq_getD_getElem?, patch_get, if_pos ⟨by simpa [dstsOf] using ht, hs⟩]
  rfl
theorem flow_else (x : Nat → Value) (t : Nat) (ht : (dstsOf ops).contains t = false) : (flowAct a0 ops x).eval (.tmp t) = a0.tmps.getD t undef := by
  have h : ¬ (t ∈ ops.toList.filterMap (·.dst) ∧ t < a0.tmps.size) := fun h => by
    have h1 : (dstsOf ops).contains t = true := by simpa [dstsOf] using h.1
    rw [ht] at h1; cases h1
  unfold flowAct Act.eval
  simp only
  rw [Array.getD_eq_getD_getElem?, patch_get, if_neg h, Array.getD_eq_getD_getElem?]

/-- Does an operation wait for another one? -/
def waitsFor (o : Oper) (j : Nat) : Bool := o.after.any fun e => Region.binds .any e && e.on == j
/-- What must have turned before an operation runs has turned by what it waits for. -/
def needOK (ops : Array Oper) (eff : Nat → Bool) (need : Nat → Nat) : Bool := (List.range ops.size).all fun i => need i == 0 || ((ops[i]?).map fun o => (List.range ops.size).any fun j => waitsFor o j && (if eff j then decide (need i ≤ need j + 1) else decide (need i ≤ need j))).getD false
/-- What must not have turned yet waits for it. -/
def tillOK (ops : Array Oper) (eff : Nat → Bool) (need till : Nat → Nat) (m : Nat) : Bool := (List.range ops.size).all fun i => (if eff i then decide (need i < m) && till i == need i else true) && (decide (m ≤ till i) || (eff i && till i == need i) || (List.range ops.size).any fun j => eff j && need j == till i && ((ops[j]?).map fun o => waitsFor o i).getD false)
/-- Those that turn something come one after another, m of them. -/
def effOK (ops : Array Oper) (eff : Nat → Bool) (need : Nat → Nat) (m : Nat) : Bool := ((List.range ops.size).all fun i => (List.range ops.size).all fun j => i == j || !eff i || !eff j || need i != need j) && (m == 0 || (List.range ops.size).any fun i => eff i && need i + 1 == m)

/-- What an operation's run owes. -/
def StepOut (P : Program) (I : Nat → (Nat → Value) → World → Prop) (V : (Nat → Value) → Nat → Value) (k : Nat) (outs : Nat → Value) (o : Oper) (w : World) : Bool → Result Next → Prop
  | false, .ok (.value v) w' => w' = w ∧ ∀ t, o.dst = some t → V outs t = v
  | true, .ok (.value v) w' => I (k + 1) (upd outs k v) w' ∧ ∀ t, o.dst = some t → V (upd outs k v) t = v
  | true, .ok (.enter f args) w' => Calls P f args w' fun e w'' => ∃ v, e = .returned v ∧ I (k + 1) (upd outs k v) w'' ∧ ∀ t, o.dst = some t → V (upd outs k v) t = v
  | true, .ok .skip w' => o.dst = none ∧ I (k + 1) (upd outs k undef) w'
  | _, _ => False
def StepRun (P : Program) (ops : Array Oper) (I : Nat → (Nat → Value) → World → Prop) (V : (Nat → Value) → Nat → Value) (eff : Nat → Bool) (need till : Nat → Nat) (a0 : Act) (i : Nat) (o : Oper) : Prop :=
  o.guard = none ∧ (∀ t, o.dst = some t → ∀ k outs u, (if eff i then need i < k else need i ≤ k) → V (upd outs k u) t = V outs t) ∧
  ∀ (k : Nat) (outs : Nat → Value) (w : World) (ρ : Operand → Value), need i ≤ k → k ≤ till i → I k outs w → (∀ v, ρ (.const v) = v) → (∀ g, ρ (.global g) = .pointer (some ⟨g, 0, none⟩)) → (∀ f, ρ (.func f) = .func (.func f) #[] #[]) →
    (∀ t, (readsOf ops o).contains t = true → ρ (.tmp t) = V outs t) → (∀ t, (dstsOf ops).contains t = false → ρ (.tmp t) = a0.tmps.getD t undef) → StepOut P I V k outs o w (eff i) ((execOp ρ o).run P w)

theorem range_all {n : Nat} {p : Nat → Bool} (h : (List.range n).all p = true) {i : Nat} (hi : i < n) : p i = true := List.all_eq_true.1 h i (List.mem_range.2 hi)
theorem range_any {n : Nat} {p : Nat → Bool} (h : (List.range n).any p = true) : ∃ i, i < n ∧ p i = true := by
  obtain ⟨i, h1, h2⟩ := List.any_eq_true.1 h
  exact ⟨i, List.mem_range.1 h1, h2⟩

set_option maxHeartbeats 4000000 in
/-- A REGION THAT DRAWS ITS ORDER AND TURNS THE WORLD STEP BY STEP: what only reads may come anywhere between. -/
theorem wpAll_steps {w : World} (m : Nat) (hn : (dstsOf ops).Nodup)
    (hafter : ((List.range ops.size).all fun i => ((ops[i]?).map fun o => o.after.all fun e => decide (e.on < i)).getD true) = true)
    {N : Nat} (hN : a0.tmps.size = N) (hs : ((dstsOf ops).all fun t => decide (t < N)) = true) (hb : readsBound ops = true)
    (hneed : needOK ops eff need = true) (htill : tillOK ops eff need till m = true) (heff : effOK ops eff need m = true)
    (hS : I 0 (fun _ => undef) w) (hsteps : ∀ i o, ops[i]? = some o → StepRun P ops I V eff need till a0 i o)
    (hend : ∀ (outs : Nat → Value) (w' : World), I m outs w' → Q .normal (flowAct a0 ops (V outs)) w') : wpAll P ops Q ops.size (Array.replicate ops.size false) a0 w := by
  have hinj : ∀ (i j : Nat) (a b : Oper) (t : Nat), ops[i]? = some a → ops[j]? = some b → a.dst = some t → b.dst = some t → i = j := fun i j a b t hi hj => by
    refine dst_inj (fun o : Oper => o.dst) ops.toList hn i j a b t ?_ ?_
    · rw [Array.getElem?_toList]; exact hi
    · rw [Array.getElem?_toList]; exact hj
  have hsl : ∀ t, (dstsOf ops).contains t = true → t < a0.tmps.size := fun t ht => by rw [hN]; exact of_decide_eq_true (List.all_eq_true.1 hs t (by simpa using ht))
  unfold effOK at heff
  rw [Bool.and_eq_true] at heff
  obtain ⟨hdist, hlast⟩ := heff
  refine wpAll_start (I := fun listed a w' => ∃ k outs x, k ≤ m ∧ I k outs w' ∧ a = flowAct a0 ops x ∧
      (∀ i o t, listed.getD i false = true → ops[i]? = some o → o.dst = some t → x t = V outs t) ∧
      (∀ i, i < ops.size → eff i = true → (listed.getD i false = true ↔ need i < k)) ∧
      (∀ i, i < ops.size → eff i = false → listed.getD i false = true → need i ≤ k) ∧
      (∀ i o j, listed.getD i false = true → ops[i]? = some o → waitsFor o j = true → listed.getD j false = true)) ?_ ?_ ?_
  · have hno : ∀ i, (Array.replicate ops.size false).getD i false = false := fun i => by
      rw [Array.getD_eq_getD_getElem?, Array.getElem?_replicate]; split <;> rfl
    refine ⟨0, fun _ => undef, fun t => a0.tmps.getD t undef, Nat.zero_le _, hS, ?_, fun i o t h => ?_, fun i _ _ => ?_, fun i _ _ h => ?_, fun i o j h => ?_⟩
    · unfold flowAct
      rw [patch_self]
    · rw [hno] at h; cases h
    · rw [hno]; simp
    · rw [hno] at h; cases h
    · rw [hno] at h; cases h
  · rintro i listed a w' ⟨k, outs, x, hkm, hI, rfl, hx, he1, he2, hC⟩ hsz hi
    obtain ⟨hun', hunl⟩ := ready_unlisted hi
    have hunl' : listed.getD i false = false := by
      have h3 : i < listed.size := by omega
      rw [Array.getD_eq_getD_getElem?, Array.getElem?_eq_getElem h3, Option.getD_some] at hunl ⊢
      exact hunl
    obtain ⟨hun, o, ho, hall⟩ := mem_ready.1 hi
    have hmem : o ∈ ops.toList := by
      rw [Array.mem_toList_iff]
      exact Array.mem_of_getElem? ho
    obtain ⟨hg, hmono, hrun⟩ := hsteps i o ho
    have hw : Region.wanted o (yielded ops (flowAct a0 ops x).tmps) = true := by
      unfold Region.wanted
      rw [hg]
    unfold wpOpL
    simp only [ho]
    rw [if_pos hw]
    -- what it waits for is listed
    have hwl : ∀ j, waitsFor o j = true → listed.getD j false = true := fun j hj => by
      obtain ⟨e, he, h2⟩ := Array.any_eq_true'.1 hj
      rw [Bool.and_eq_true, beq_iff_eq] at h2
      rw [← h2.2]
      exact hall e he h2.1
    have hk1 : need i ≤ k := by
      have h1 := range_all hneed hun'
      rw [Bool.or_eq_true, beq_iff_eq, ho, Option.map_some, Option.getD_some] at h1
      rcases h1 with h1 | h1
      · omega
      · obtain ⟨j, hj, h2⟩ := range_any h1
        rw [Bool.and_eq_true] at h2
        have hl := hwl j h2.1
        cases hej : eff j with
        | true =>
          have h3 := (he1 j hj hej).1 hl
          have h4 := h2.2
          rw [hej, if_pos rfl] at h4
          have := of_decide_eq_true h4
          omega
        | false =>
          have h3 := he2 j hj hej hl
          have h4 := h2.2
          rw [hej, if_neg (by simp)] at h4
          have := of_decide_eq_true h4
          omega
    have ht1 := range_all htill hun'
    rw [Bool.and_eq_true] at ht1
    have hk2 : k ≤ till i := by
      have h1 := ht1.2
      rw [Bool.or_eq_true, Bool.or_eq_true] at h1
      rcases h1 with (h1 | h1) | h1
      · have := of_decide_eq_true h1; omega
      · rw [Bool.and_eq_true, beq_iff_eq] at h1
        have h3 : ¬ need i < k := fun h => by rw [(he1 i hun' h1.1).2 h] at hunl'; cases hunl'
        omega
      · obtain ⟨j, hj, h2⟩ := range_any h1
        rw [Bool.and_eq_true, Bool.and_eq_true, beq_iff_eq] at h2
        have h3 : ¬ need j < k := fun h => by
          have h4 := (he1 j hj h2.1.1).2 h
          have h5 := h2.2
          cases hoj : ops[j]? with
          | none => rw [hoj] at h5; simp at h5
          | some oj =>
            rw [hoj, Option.map_some, Option.getD_some] at h5
            rw [hC j oj i h4 hoj h5] at hunl'
            cases hunl'
        omega
    have hrd : ∀ t, (readsOf ops o).contains t = true → (flowAct a0 ops x).eval (.tmp t) = V outs t := fun t ht => by
      have hmt : t ∈ readsOf ops o := by simpa using ht
      have h1 := List.all_eq_true.1 (List.all_eq_true.1 hb o hmem) t hmt
      obtain ⟨e, he, he2'⟩ := Array.any_eq_true'.1 h1
      rw [Bool.and_eq_true, beq_iff_eq] at he2'
      have hd : (dstsOf ops).contains t = true := (List.mem_filter.1 hmt).2
      rw [flow_eval x t hd (hsl t hd)]
      have hl := hall e he he2'.1
      cases hoe : ops[e.on]? with
      | none => rw [hoe] at he2'; simp at he2'
      | some oe =>
        rw [hoe] at he2'
        exact hx e.on oe t hl hoe (by simpa using he2'.2)
    have h2 := hrun k outs w' (flowAct a0 ops x).eval hk1 hk2 hI (fun _ => rfl) (fun _ => rfl) (fun _ => rfl) hrd (fun t ht => flow_else x t ht)
    have hset : ∀ j, j ≠ i → (listed.setIfInBounds i true).getD j false = listed.getD j false := fun j hji => getD_set_ne false (Ne.symm hji)
    have hseti : (listed.setIfInBounds i true).getD i false = true := by
      rw [Array.getD_eq_getD_getElem?, Array.getElem?_setIfInBounds]
      simp [hsz, hun']
    have hnew : ∀ j, listed.getD j false = true → (listed.setIfInBounds i true).getD j false = true := fun j h => by
      by_cases e : j = i
      · rw [e]; exact hseti
      · rw [hset j e]; exact h
    have hCC : ∀ j oj l, (listed.setIfInBounds i true).getD j false = true → ops[j]? = some oj → waitsFor oj l = true → (listed.setIfInBounds i true).getD l false = true := fun j oj l hj hoj hwk => by
      by_cases hji : j = i
      · subst hji
        rw [ho] at hoj
        cases hoj
        exact hnew _ (hwl l hwk)
      · rw [hset j hji] at hj
        exact hnew _ (hC j oj l hj hoj hwk)
    -- the frame behind it
    have hfr : ∀ (outs2 : Nat → Value) (v : Value), (∀ j oj t, j ≠ i → listed.getD j false = true → ops[j]? = some oj → oj.dst = some t → V outs2 t = V outs t) → (∀ t, o.dst = some t → V outs2 t = v) →
        ∃ x2, (flowAct a0 ops x).put o.dst v = flowAct a0 ops x2 ∧ ∀ j oj t, (listed.setIfInBounds i true).getD j false = true → ops[j]? = some oj → oj.dst = some t → x2 t = V outs2 t := fun outs2 v hsame hv => by
      cases hd : o.dst with
      | none =>
        refine ⟨x, rfl, fun j oj t hj hoj hdt => ?_⟩
        have hji : j ≠ i := fun e => by subst e; rw [ho] at hoj; cases hoj; rw [hd] at hdt; cases hdt
        rw [hset j hji] at hj
        rw [hsame j oj t hji hj hoj hdt]
        exact hx j oj t hj hoj hdt
      | some t0 =>
        refine ⟨upd x t0 v, ?_, fun j oj t hj hoj hdt => ?_⟩
        · unfold flowAct Act.put
          simp only
          rw [patch_put]
          exact List.mem_filterMap.2 ⟨o, hmem, hd⟩
        · by_cases hji : j = i
          · subst hji
            rw [ho] at hoj
            cases hoj
            rw [hd] at hdt
            cases hdt
            rw [show upd x t0 v t0 = v by simp [upd]]
            exact (hv t0 hd).symm
          · have hne : t ≠ t0 := fun e => hji (hinj j i oj o t hoj ho hdt (by rw [e]; exact hd))
            rw [hset j hji] at hj
            rw [show upd x t0 v t = x t by simp [upd, hne], hsame j oj t hji hj hoj hdt]
            exact hx j oj t hj hoj hdt
    have hlt : ∀ {j : Nat} {oj : Oper}, ops[j]? = some oj → j < ops.size := fun h => (Array.getElem?_eq_some_iff.1 h).1
    cases hei : eff i with
    | false =>
      rw [hei] at h2
      unfold Oper.wp
      generalize (execOp (flowAct a0 ops x).eval o).run P w' = res at h2
      match res, h2 with
      | .ok (.value v) w2, ⟨hw2, hv⟩ =>
        subst hw2
        obtain ⟨x2, hx2, hx3⟩ := hfr outs v (fun _ _ _ _ _ _ _ => rfl) hv
        refine ⟨k, outs, x2, hkm, hI, hx2, hx3, fun j hj hej => ?_, fun j hj hej hl => ?_, hCC⟩
        · have hji : j ≠ i := fun e => by rw [e, hei] at hej; cases hej
          rw [hset j hji]; exact he1 j hj hej
        · by_cases hji : j = i
          · rw [hji]; exact hk1
          · rw [hset j hji] at hl; exact he2 j hj hej hl
    | true =>
      have hek : need i = k := by
        have h3 : ¬ need i < k := fun h => by rw [(he1 i hun' hei).2 h] at hunl'; cases hunl'
        omega
      have hkm1 : k + 1 ≤ m := by
        have h3 := ht1.1
        rw [hei, if_pos rfl, Bool.and_eq_true] at h3
        have := of_decide_eq_true h3.1
        omega
      rw [hei] at h2
      have fin : ∀ v w2, I (k + 1) (upd outs k v) w2 → (∀ t, o.dst = some t → V (upd outs k v) t = v) → (∃ k outs x', k ≤ m ∧ I k outs w2 ∧ (flowAct a0 ops x).put o.dst v = flowAct a0 ops x' ∧
      (∀ i' o t, (listed.setIfInBounds i true).getD i' false = true → ops[i']? = some o → o.dst = some t → x' t = V outs t) ∧
      (∀ i', i' < ops.size → eff i' = true → ((listed.setIfInBounds i true).getD i' false = true ↔ need i' < k)) ∧
      (∀ i', i' < ops.size → eff i' = false → (listed.setIfInBounds i true).getD i' false = true → need i' ≤ k) ∧
      (∀ i' o j, (listed.setIfInBounds i true).getD i' false = true → ops[i']? = some o → waitsFor o j = true → (listed.setIfInBounds i true).getD j false = true)) := by
        intro v w2 hI2 hv
        obtain ⟨x2, hx2, hx3⟩ := hfr (upd outs k v) v (fun j oj t hji hj hoj hdt => by
          refine (hsteps j oj hoj).2.1 t hdt k outs v ?_
          cases hej : eff j with
          | true => rw [if_pos rfl]; exact (he1 j (hlt hoj) hej).1 hj
          | false => rw [if_neg (by simp)]; exact he2 j (hlt hoj) hej hj) hv
        refine ⟨k + 1, _, x2, hkm1, hI2, hx2, hx3, fun j hj hej => ?_, fun j hj hej hl => ?_, hCC⟩
        · by_cases hji : j = i
          · subst hji
            rw [hseti]
            exact ⟨fun _ => by omega, fun _ => rfl⟩
          · rw [hset j hji, he1 j hj hej]
            have h4 := range_all (range_all hdist hj) hun'
            rw [hej, hei] at h4
            simp only [Bool.not_true, Bool.or_false, Bool.or_eq_true, beq_iff_eq, bne_iff_ne] at h4
            rcases h4 with h4 | h4
            · exact absurd h4 hji
            · omega
        · have hji : j ≠ i := fun e => by rw [e, hei] at hej; cases hej
          rw [hset j hji] at hl
          have := he2 j hj hej hl
          omega
      unfold Oper.wp
      generalize (execOp (flowAct a0 ops x).eval o).run P w' = res at h2
      match res, h2 with
      | .ok (.value v) w2, ⟨h3, h4⟩ => exact fin v w2 h3 h4
      | .ok (.enter f args) w2, h3 =>
        refine Calls.mono h3 ?_
        rintro e w'' ⟨v, rfl, h4, h5⟩
        exact fin v w'' h4 h5
      | .ok .skip w2, ⟨h3, h4⟩ => exact fin undef w2 h4 (fun t ht => by rw [h3] at ht; cases ht)
  · rintro listed a w' ⟨k, outs, x, hkm, hI, rfl, hx, he1, -, -⟩ hsz hr
    have hall := ready_nil hsz (fun i o ho e he => by
      have h1 := List.all_eq_true.1 hafter i (List.mem_range.2 (Array.getElem?_eq_some_iff.1 ho).1)
      rw [ho, Option.map_some, Option.getD_some, Array.all_eq_true_iff_forall_mem] at h1
      exact of_decide_eq_true (h1 e he)) hr
    have hk : k = m := by
      rw [Bool.or_eq_true, beq_iff_eq] at hlast
      rcases hlast with h | h
      · omega
      · obtain ⟨i, hi, h2⟩ := range_any h
        rw [Bool.and_eq_true, beq_iff_eq] at h2
        have := (he1 i hi h2.1).1 (hall i hi)
        omega
    subst hk
    have hfl : flowAct a0 ops x = flowAct a0 ops (V outs) := by
      unfold flowAct
      congr 1
      apply Array.ext_getElem?
      intro s
      rw [patch_get, patch_get]
      by_cases h : s ∈ ops.toList.filterMap (·.dst) ∧ s < a0.tmps.size
      · rw [if_pos h, if_pos h]
        obtain ⟨o, ho, hd⟩ := List.mem_filterMap.1 h.1
        obtain ⟨i, hi⟩ := List.getElem?_of_mem ho
        rw [Array.getElem?_toList] at hi
        rw [hx i o s (hall i (Array.getElem?_eq_some_iff.1 hi).1) hi hd]
      · rw [if_neg h, if_neg h]
    rw [hfl]
    exact hend outs w' hI

/-- One after another, from a number on. -/
def StepAll (F : Nat → Oper → Prop) : List Oper → Nat → Prop
  | [], _ => True
  | o :: l, k => F k o ∧ StepAll F l (k + 1)
theorem StepAll.at_ {F : Nat → Oper → Prop} : ∀ {l : List Oper} {k : Nat}, StepAll F l k → ∀ i o, l[i]? = some o → F (k + i) o
  | [], _, _, i, o, h => by simp at h
  | a :: l, k, h, 0, o, he => by
    simp at he
    subst he
    exact h.1
  | a :: l, k, h, i + 1, o, he => by
    have := h.2.at_ i o (by simpa using he)
    rw [show k + (i + 1) = k + 1 + i by omega]
    exact this
theorem wp_region_steps {id : Nat} {w : World} (m : Nat) (hm : P.follows .mixedOrders = true) (hn : (dstsOf ops).Nodup)
    (hafter : ((List.range ops.size).all fun i => ((ops[i]?).map fun o => o.after.all fun e => decide (e.on < i)).getD true) = true)
    {N : Nat} (hN : a0.tmps.size = N) (hs : ((dstsOf ops).all fun t => decide (t < N)) = true) (hb : readsBound ops = true)
    (hneed : needOK ops eff need = true) (htill : tillOK ops eff need till m = true) (heff : effOK ops eff need m = true)
    (hS : I 0 (fun _ => undef) w.drew) (hsteps : StepAll (fun i o => StepRun P ops I V eff need till a0 i o) ops.toList 0)
    (hend : ∀ (outs : Nat → Value) (w' : World), I m outs w' → Q .normal (flowAct a0 ops (V outs)) w') : (Code.region id ops true).wp P Q a0 w :=
  wp_region_any hm (wpAny_of_all (wpAll_steps m hn hafter hN hs hb hneed htill heff hS (fun i o h => by
    have := hsteps.at_ i o (by rw [Array.getElem?_toList]; exact h)
    rwa [Nat.zero_add] at this) hend))
/-- Is it an operation that may come in a round of a loop over a function? -/
def plainOp (o : Oper) : Bool := match o.op with | .defer _ => false | _ => true
theorem wpIn_region_steps {id l n : Nat} {w : World} (m : Nat) (hm : P.follows .mixedOrders = true) (hn : (dstsOf ops).Nodup)
    (hafter : ((List.range ops.size).all fun i => ((ops[i]?).map fun o => o.after.all fun e => decide (e.on < i)).getD true) = true)
    {N : Nat} (hN : a0.tmps.size = N) (hs : ((dstsOf ops).all fun t => decide (t < N)) = true) (hb : readsBound ops = true)
    (hneed : needOK ops eff need = true) (htill : tillOK ops eff need till m = true) (heff : effOK ops eff need m = true)
    (hpl : ∀ o ∈ ops.toList, (∀ c, o.op ≠ .defer c) ∧ ∀ ρ w row args w', (execOp ρ o).run P w ≠ .ok (.row row args) w')
    (hS : I 0 (fun _ => undef) w.drew) (hsteps : StepAll (fun i o => StepRun P ops I V eff need till a0 i o) ops.toList 0)
    (hend : ∀ (outs : Nat → Value) (w' : World), I m outs w' → Q .normal (flowAct a0 ops (V outs)) w') : (Code.region id ops true).wpIn (Fence.wide.inRound l) n P Q a0 w :=
  wpIn_region_any hm (wpAnyIn_of_all hpl (wpAll_steps m hn hafter hN hs hb hneed htill heff hS (fun i o h => by
    have := hsteps.at_ i o (by rw [Array.getElem?_toList]; exact h)
    rwa [Nat.zero_add] at this) hend))

/-- An operation that only reads; one that makes something; a store; a call. -/
theorem step_pure {k : Nat} {outs : Nat → Value} {o : Oper} {w : World} {v : Value} {b : Bool} {r : Result Next} (hb : b = false) (hv : ∀ t, o.dst = some t → V outs t = v) (hr : r = .ok (.value v) w) : StepOut P I V k outs o w b r := by
  subst hb; rw [hr]; exact ⟨rfl, hv⟩
theorem step_new {k : Nat} {outs : Nat → Value} {o : Oper} {w w' : World} {v : Value} {b : Bool} {r : Result Next} (hb : b = true) (hr : r = .ok (.value v) w') (hI : I (k + 1) (upd outs k v) w') (hv : ∀ t, o.dst = some t → V (upd outs k v) t = v) : StepOut P I V k outs o w b r := by
  subst hb; rw [hr]; exact ⟨hI, hv⟩
theorem step_store {k : Nat} {outs : Nat → Value} {o : Oper} {w w' : World} {b : Bool} {r : Result Next} (hb : b = true) (hd : o.dst = none) (hr : r = .ok .skip w') (hI : I (k + 1) (upd outs k undef) w') : StepOut P I V k outs o w b r := by
  subst hb; rw [hr]; exact ⟨hd, hI⟩
theorem step_call {k : Nat} {outs : Nat → Value} {o : Oper} {w w' : World} {f : FuncId} {args : Array Value} {b : Bool} {r : Result Next} (hb : b = true) (hr : r = .ok (.enter f args) w') (hc : Calls P f args w' fun e w'' => ∃ v, e = .returned v ∧ I (k + 1) (upd outs k v) w'' ∧ ∀ t, o.dst = some t → V (upd outs k v) t = v) : StepOut P I V k outs o w b r := by
  subst hb; rw [hr]; exact hc
end
end Go.Proofs.Ytanjkhclhcnnaaa
