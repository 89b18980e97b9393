/- Arguments opened: rules, tasks, slices of structs of integers; arguments read again; the post of a law. -/
import Derived.Test.YtanjkhclhcnnaaaZC
import Derived.Test.YtanjkhclhcnnaaaRows
import Derived.Deep.Slices
import Derived.Deep.Fields
import Derived.Carry
import Derived.ChangeSame
import Derived.OpenShut
import Derived.ProofKit
import Derived.Deep.DeepHandedRow
import Derived.Lay
namespace Go.Proofs.Ytanjkhclhcnnaaa
open Go.ChangeShapes Go.WideShapes Go.ChangeAt Go.RowKit Go.Deep

theorem own : ownKnob Try.prog.godebug = none := by kernel_rfl
theorem laid_out : laidOutB Try.prog = true := by kernel_rfl

section
variable {H : Type} {enc : TypeId × Value → H} {P : Program} {w W' : World} {base : Nat} {spare : Nat → Bool} {held : Bool}
/-- The arguments read again in a world in which nothing of theirs has turned. -/
theorem args_stay (hl : laidOutB P = true) {sp : Nat → Bool} : ∀ {ts : List TypeId} {vs : List Value} {ds : List (DataW H)} {ps : List MemPlace}, (∀ t ∈ ts, P.readableRec t = true ∧ t < P.types.size) →
    DataW.TrodAll enc P w base (fun _ => true) true ts vs ds ps → (∀ p ∈ ps, w.sameAt W' p) → (∀ p ∈ ps, sp p.block = true) → DataW.TrodAll enc P W' base sp true ts vs ds ps
  | [], [], [], _, _, h, _, _ => h
  | _ :: _, _ :: _, _ :: _, _, hT, ⟨p, q, h1, h2, e⟩, hm, hs =>
    ⟨p, q, WideElems.Trod_stays hl (hT _ (List.mem_cons.2 (Or.inl rfl))).1 (hT _ (List.mem_cons.2 (Or.inl rfl))).2 h1 (fun x hx => hm x (by rw [e]; exact List.mem_append_left _ hx)) (fun x hx => hs x (by rw [e]; exact List.mem_append_left _ hx)),
      args_stay hl (fun t ht => hT t (List.mem_cons.2 (Or.inr ht))) h2 (fun x hx => hm x (by rw [e]; exact List.mem_append_right _ hx)) (fun x hx => hs x (by rw [e]; exact List.mem_append_right _ hx)), e⟩
end
/-- The post of a call that leaves the memory of before as it was. -/
theorem post_below {H : Type} {enc : TypeId × Value → H} {P : Program} {f : Func} {s : ChangeSpec} {apart fresh : Bool} {W W' : World} {args : Array Value} {v : Value} {ds gs : List (DataW H)} {before pa pv : List MemPlace}
    (hW : DataW.Whole enc P f.params.toList s.vars apart W args.toList ds gs before)
    (hres : ∀ (b : Nat) (sp : Nat → Bool) (hd : Bool), DataW.TrodAll enc P W' b sp hd f.resultTypes.toList (v.resultList f.resultTypes.size) (s.fn H (ds ++ gs)).results [])
    (hargs : ∀ sp : Nat → Bool, (∀ p ∈ before, sp p.block = true) → DataW.TrodAll enc P W' 0 sp true f.params.toList args.toList (s.fn H (ds ++ gs)).args pa)
    (hvars : ∀ sp : Nat → Bool, (∀ p ∈ before, sp p.block = true) → DataW.TrodVars enc P W' sp s.vars (s.fn H (ds ++ gs)).vars pv)
    (hps : before = pa ++ pv) (hk : W.keptBut W' (· ∈ before)) :
    s.post enc P f apart fresh false false W args v W' := by
  have hold : ∀ p ∈ before, (fun b => decide (b < W.heap.size)) p.block = true := fun p hp => by simpa using hW.lt p hp
  refine ⟨ds, gs, before, [], pa, pv, hW, hres _ _ _, hargs _ hold, hvars _ hold, World.keptBut_mono (fun p hp => ⟨hp, ?_⟩) hk, fun h => by cases h⟩
  rw [hps, List.mem_append] at hp
  exact Or.inr hp
/-- THE POST of a law that returns true and leaves the memory of before as it was. -/
theorem law_post {H : Type} {enc : TypeId × Value → H} {f : Func} {s : ChangeSpec} {W W' : World} {args : Array Value} {ds : List (DataW H)} {before : List MemPlace} (hT : ∀ t ∈ f.params.toList, Try.prog.readableRec t = true ∧ t < Try.prog.types.size)
    (hW : DataW.Whole enc Try.prog f.params.toList s.vars false W args.toList ds [] before) (hV : s.vars = []) (hs : s.fn H (ds ++ []) = { results := [.lit (.bool true)], args := ds, vars := [] }) (hr : f.resultTypes = #[4]) (hb : Below W.heap.size W W') :
    s.post enc Try.prog f false true false false W args (.bool true) W' := by
  have hW' := hW
  obtain ⟨p, q, hA, hq, rfl, -, -⟩ := hW
  rw [hV] at hq
  obtain rfl : q = [] := hq
  simp only [List.append_nil] at hW' ⊢
  have hlt : ∀ x ∈ p, x.block < W.heap.size := fun x hx => by simpa using hW'.lt x hx
  refine post_below (pa := p) (pv := []) hW' (fun _ _ _ => ?_) (fun sp hsp => ?_) (fun _ _ => ?_) (by simp) (hb.frame _)
  · rw [hs, hr]
    exact trodAll_cons_mk (shut_bool Try.underlying4 _) trodAll_mk0
  · rw [hs]
    exact args_stay laid_out hT hA (fun x hx => hb.same (hlt x hx)) hsp
  · rw [hs, hV]
    rfl

/-- A type whose data are k integers, one after another. -/
def Flat (P : Program) (t : TypeId) (k : Nat) : Prop := ∀ {H : Type} {enc : TypeId × Value → H} {W : World} {base : Nat} {held : Bool} {fuel : Nat} {cs : List Value} {x : DataW H × List MemPlace},
  DataW.trod enc P W base (fun _ => true) held fuel t cs = some x → ∃ zs : List Int, zs.length = k ∧ cs = zs.map (fun z => Value.int .i64 z) ∧ ∀ z ∈ zs, (Lit.int .i64 z).wf = true
theorem flat_int {P : Program} {t : TypeId} (ht : P.underlying t = some (.int .i64)) : Flat P t 1 := fun h => by
  obtain ⟨n, rfl, -, hw⟩ := DataW.trod_int ht h
  exact ⟨[n], rfl, rfl, by simpa using hw⟩
theorem parts2 {cs : List Value} {k0 k1 : Nat} (h : cs.length = k0 + k1) : cs = (cs.drop 0).take k0 ++ (cs.drop k0).take k1 := by
  rw [List.drop_zero, List.take_of_length_le (l := cs.drop k0) (by simp; omega), List.take_append_drop]
theorem flat_struct2 {P : Program} {t : TypeId} {f0 f1 : Field} {k0 k1 : Nat} (ht : P.underlying t = some (.struct #[f0, f1])) (o0 : f0.offset = 0) (o1 : f1.offset = k0) (c0 : P.cellsOf f0.type = k0) (c1 : P.cellsOf f1.type = k1) (ct : P.cellsOf t = k0 + k1)
    (h0 : Flat P f0.type k0) (h1 : Flat P f1.type k1) : Flat P t (k0 + k1) := fun h => by
  obtain ⟨y0, y1, n, -, hl, e0, e1⟩ := trod_struct2 ht h
  rw [o0, c0] at e0
  rw [o1, c1] at e1
  obtain ⟨z0, l0, q0, w0⟩ := h0 e0
  obtain ⟨z1, l1, q1, w1⟩ := h1 e1
  refine ⟨z0 ++ z1, by simp [l0, l1], ?_, fun z hz => (List.mem_append.1 hz).elim (w0 z) (w1 z)⟩
  rw [List.map_append, ← q0, ← q1]
  exact parts2 (by rw [hl, ct])
theorem flat_struct3 {P : Program} {t : TypeId} {f0 f1 f2 : Field} (ht : P.underlying t = some (.struct #[f0, f1, f2])) (o0 : f0.offset = 0) (o1 : f1.offset = 1) (o2 : f2.offset = 2) (c0 : P.cellsOf f0.type = 1) (c1 : P.cellsOf f1.type = 1) (c2 : P.cellsOf f2.type = 1) (ct : P.cellsOf t = 3)
    (h0 : Flat P f0.type 1) (h1 : Flat P f1.type 1) (h2 : Flat P f2.type 1) : Flat P t 3 := fun {_ _ _ _ _ _ cs _} h => by
  obtain ⟨xs, n, -, -, hl, hlen, hf⟩ := DataW.trod_struct ht h
  have e0 := hf 0 f0 rfl
  have e1 := hf 1 f1 rfl
  have e2 := hf 2 f2 rfl
  have hx3 : xs.length = 3 := hlen
  rw [List.getElem?_eq_getElem (by omega)] at e0 e1 e2
  rw [o0, c0] at e0
  rw [o1, c1] at e1
  rw [o2, c2] at e2
  obtain ⟨z0, l0, q0, w0⟩ := h0 e0
  obtain ⟨z1, l1, q1, w1⟩ := h1 e1
  obtain ⟨z2, l2, q2, w2⟩ := h2 e2
  refine ⟨z0 ++ z1 ++ z2, by simp [l0, l1, l2], ?_, fun z hz => by
    rcases List.mem_append.1 hz with hz | hz
    · exact (List.mem_append.1 hz).elim (w0 z) (w1 z)
    · exact w2 z hz⟩
  rw [List.map_append, List.map_append, ← q0, ← q1, ← q2]
  rw [ct] at hl
  match cs, hl with
  | [a, b, c], _ => rfl
theorem flat_arr3 {P : Program} {t e : TypeId} (ht : P.underlying t = some (.array 3 e)) (c0 : P.cellsOf e = 1) (ct : P.cellsOf t = 3) (h0 : Flat P e 1) : Flat P t 3 := fun {_ _ _ _ _ _ cs _} h => by
  obtain ⟨xs, m, -, -, hl, hlen, hf⟩ := DataW.trod_array ht h
  have e0 := hf 0 (by decide)
  have e1 := hf 1 (by decide)
  have e2 := hf 2 (by decide)
  rw [List.getElem?_eq_getElem (by omega), c0] at e0 e1 e2
  obtain ⟨z0, l0, q0, w0⟩ := h0 e0
  obtain ⟨z1, l1, q1, w1⟩ := h0 e1
  obtain ⟨z2, l2, q2, w2⟩ := h0 e2
  refine ⟨z0 ++ z1 ++ z2, by simp [l0, l1, l2], ?_, fun z hz => by
    rcases List.mem_append.1 hz with hz | hz
    · exact (List.mem_append.1 hz).elim (w0 z) (w1 z)
    · exact w2 z hz⟩
  rw [List.map_append, List.map_append, ← q0, ← q1, ← q2]
  rw [ct] at hl
  match cs, hl with
  | [a, b, c], _ => rfl

theorem exists_list {α : Type} (d : α) (p : Nat → α → Prop) : ∀ n, (∀ i, i < n → ∃ a, p i a) → ∃ l : List α, l.length = n ∧ ∀ i, i < n → p i (l.getD i d)
  | 0, _ => ⟨[], rfl, fun i hi => absurd hi (Nat.not_lt_zero i)⟩
  | n + 1, h => by
    obtain ⟨l, hl, hp⟩ := exists_list d p n fun i hi => h i (by omega)
    obtain ⟨a, ha⟩ := h n (by omega)
    refine ⟨l ++ [a], by simp [hl], fun i hi => ?_⟩
    by_cases hin : i < n
    · have := hp i hin
      rw [List.getD_eq_getElem?_getD] at this ⊢
      rw [List.getElem?_append_left (by omega)]
      exact this
    · obtain rfl : i = n := by omega
      rw [List.getD_eq_getElem?_getD, List.getElem?_append_right (by omega), hl, Nat.sub_self]
      exact ha

section
variable {H : Type} {enc : TypeId × Value → H} {P : Program} {w : World} {base : Nat} {held : Bool}
/-- A slice of such, opened. -/
theorem open_flat {t e : TypeId} {k : Nat} {fuel : Nat} {cs : List Value} {x : DataW H × List MemPlace} (ht : P.underlying t = some (.slice e)) (hF : Flat P e k) (hk0 : 0 < k) (hC : P.cellsOf e = k)
    (h : DataW.trod enc P w base (fun _ => true) held fuel t cs = some x) (hb : 8 ≤ P.bytesOf e) (hw : (x.1.weights P t).all (· ≤ reachBytes) = true) :
    ∃ (a : Option Addr) (n c : Nat), cs = [.slice a n c] ∧ n ≤ 17592186043904 ∧ (0 < n → ∃ b o, a = some ⟨b, o, none⟩ ∧ b < w.heap.size ∧
      ∀ i, i < n → ∃ zs : List Int, zs.length = k ∧ ∀ j, j < k → w.cell? ⟨b, o + i * k + j, none⟩ = some (.int .i64 (zs.getD j 0))) := by
  rcases open_slice ht h with ⟨rfl, rfl⟩ | ⟨a, len, cap, m, n, D, Pl, rfl, hbase, hle, hmax, hm, hx, hi⟩
  · exact ⟨none, 0, 0, rfl, by omega, fun h => absurd h (Nat.lt_irrefl 0)⟩
  · have hmc : m = cap := by rw [hm]; simp
    have hreach : cap * 8 ≤ 140737488351232 := by
      rw [hx] at hw
      simp only [DataW.weights, ht, List.all_cons, Bool.and_eq_true, decide_eq_true_eq, List.length_map, List.length_range] at hw
      have h1 := hw.1
      have h2 : (len + (m - len)) * 8 ≤ (len + (m - len)) * P.bytesOf e := Nat.mul_le_mul_left _ hb
      have h3 : reachBytes = 140737488351232 := rfl
      rw [hmc] at h1 h2
      omega
    have cellAt : ∀ i, i < len → ∃ zs : List Int, zs.length = k ∧ ∀ j, j < k → w.cell? (a.add (i * k + j)) = some (.int .i64 (zs.getD j 0)) := by
      intro i hil
      obtain ⟨cs', hc, ht'⟩ := hi i (by omega)
      rw [hC] at hc
      obtain ⟨zs, l, q, -⟩ := hF ht'
      obtain ⟨_, hcl, hat⟩ := World.cells?_some hc
      refine ⟨zs, l, fun j hj => ?_⟩
      rw [← Go.Deep.add_add, hat j hj, q]
      simp [List.getD, l, hj]
    refine ⟨some a, len, cap, rfl, by omega, fun hp => ?_⟩
    obtain ⟨b, off, spot⟩ := a
    obtain ⟨g0, -, hg0⟩ := cellAt 0 hp
    have h0 := hg0 0 hk0
    have hspot : spot = none := by simpa [Addr.add] using World.cell?_spot h0
    subst hspot
    refine ⟨b, off, rfl, by simpa [Addr.add] using World.block_lt_of_cell? _ _ h0, fun i hi' => ?_⟩
    obtain ⟨zs, l, hg⟩ := cellAt i hi'
    refine ⟨zs, l, fun j hj => ?_⟩
    have := hg j hj
    rw [Go.WideShapes.add_plain] at this
    rw [Nat.add_assoc]
    exact this
theorem open_sl1 {t e : TypeId} {fuel : Nat} {cs : List Value} {x : DataW H × List MemPlace} (ht : P.underlying t = some (.slice e)) (hF : Flat P e 1) (hC : P.cellsOf e = 1) (h : DataW.trod enc P w base (fun _ => true) held fuel t cs = some x) (hb : 8 ≤ P.bytesOf e) (hw : (x.1.weights P t).all (· ≤ reachBytes) = true) :
    ∃ (a : Option Addr) (n c : Nat) (ms : List Int), cs = [.slice a n c] ∧ n ≤ 17592186043904 ∧ Sl1 w a n ms := by
  obtain ⟨a, n, c, rfl, hn, hat⟩ := open_flat ht hF (by decide) hC h hb hw
  obtain ⟨ms, hl, hms⟩ := exists_list (0 : Int) (fun i (m : Int) => ∀ b o, a = some ⟨b, o, none⟩ → w.cell? ⟨b, o + i, none⟩ = some (.int .i64 m)) n fun i hi => by
    obtain ⟨b, o, rfl, -, hc⟩ := hat (by omega)
    obtain ⟨zs, -, hg⟩ := hc i hi
    refine ⟨zs.getD 0 0, fun b' o' e => ?_⟩
    injection e with e
    injection e with e1 e2
    subst e1 e2
    simpa using hg 0 (by decide)
  refine ⟨a, n, c, ms, rfl, hn, hl, fun hp => ?_⟩
  obtain ⟨b, o, e, hlt, -⟩ := hat hp
  exact ⟨b, o, e, hlt, fun i hi => hms i hi b o e⟩
theorem open_sl2 {t e : TypeId} {fuel : Nat} {cs : List Value} {x : DataW H × List MemPlace} (ht : P.underlying t = some (.slice e)) (hF : Flat P e 2) (hC : P.cellsOf e = 2) (h : DataW.trod enc P w base (fun _ => true) held fuel t cs = some x) (hb : 8 ≤ P.bytesOf e) (hw : (x.1.weights P t).all (· ≤ reachBytes) = true) :
    ∃ (a : Option Addr) (n c : Nat) (ms : List T2), cs = [.slice a n c] ∧ n ≤ 17592186043904 ∧ Sl2 w a n ms := by
  obtain ⟨a, n, c, rfl, hn, hat⟩ := open_flat ht hF (by decide) hC h hb hw
  obtain ⟨ms, hl, hms⟩ := exists_list (0, 0) (fun i (m : T2) => ∀ b o, a = some ⟨b, o, none⟩ → w.cell? ⟨b, o + i * 2, none⟩ = some (.int .i64 m.1) ∧ w.cell? ⟨b, o + i * 2 + 1, none⟩ = some (.int .i64 m.2)) n fun i hi => by
    obtain ⟨b, o, rfl, -, hc⟩ := hat (by omega)
    obtain ⟨zs, -, hg⟩ := hc i hi
    refine ⟨(zs.getD 0 0, zs.getD 1 0), fun b' o' e => ?_⟩
    injection e with e
    injection e with e1 e2
    subst e1 e2
    exact ⟨hg 0 (by decide), hg 1 (by decide)⟩
  refine ⟨a, n, c, ms, rfl, hn, hl, fun hp => ?_⟩
  obtain ⟨b, o, e, hlt, -⟩ := hat hp
  exact ⟨b, o, e, hlt, fun i hi => hms i hi b o e⟩
theorem open_sl3 {t e : TypeId} {fuel : Nat} {cs : List Value} {x : DataW H × List MemPlace} (ht : P.underlying t = some (.slice e)) (hF : Flat P e 3) (hC : P.cellsOf e = 3) (h : DataW.trod enc P w base (fun _ => true) held fuel t cs = some x) (hb : 8 ≤ P.bytesOf e) (hw : (x.1.weights P t).all (· ≤ reachBytes) = true) :
    ∃ (a : Option Addr) (n c : Nat) (ms : List T3), cs = [.slice a n c] ∧ n ≤ 17592186043904 ∧ Sl3 w a n ms := by
  obtain ⟨a, n, c, rfl, hn, hat⟩ := open_flat ht hF (by decide) hC h hb hw
  obtain ⟨ms, hl, hms⟩ := exists_list (0, 0, 0) (fun i (m : T3) => ∀ b o, a = some ⟨b, o, none⟩ → w.cell? ⟨b, o + i * 3, none⟩ = some (.int .i64 m.1) ∧ w.cell? ⟨b, o + i * 3 + 1, none⟩ = some (.int .i64 m.2.1) ∧ w.cell? ⟨b, o + i * 3 + 2, none⟩ = some (.int .i64 m.2.2)) n fun i hi => by
    obtain ⟨b, o, rfl, -, hc⟩ := hat (by omega)
    obtain ⟨zs, -, hg⟩ := hc i hi
    refine ⟨(zs.getD 0 0, zs.getD 1 0, zs.getD 2 0), fun b' o' e => ?_⟩
    injection e with e
    injection e with e1 e2
    subst e1 e2
    exact ⟨hg 0 (by decide), hg 1 (by decide), hg 2 (by decide)⟩
  refine ⟨a, n, c, ms, rfl, hn, hl, fun hp => ?_⟩
  obtain ⟨b, o, e, hlt, -⟩ := hat hp
  exact ⟨b, o, e, hlt, fun i hi => hms i hi b o e⟩
theorem open_sl4 {t e : TypeId} {fuel : Nat} {cs : List Value} {x : DataW H × List MemPlace} (ht : P.underlying t = some (.slice e)) (hF : Flat P e 4) (hC : P.cellsOf e = 4) (h : DataW.trod enc P w base (fun _ => true) held fuel t cs = some x) (hb : 8 ≤ P.bytesOf e) (hw : (x.1.weights P t).all (· ≤ reachBytes) = true) :
    ∃ (a : Option Addr) (n c : Nat) (ms : List T4), cs = [.slice a n c] ∧ n ≤ 17592186043904 ∧ Sl4 w a n ms := by
  obtain ⟨a, n, c, rfl, hn, hat⟩ := open_flat ht hF (by decide) hC h hb hw
  obtain ⟨ms, hl, hms⟩ := exists_list (0, 0, 0, 0) (fun i (m : T4) => ∀ b o, a = some ⟨b, o, none⟩ → w.cell? ⟨b, o + i * 4, none⟩ = some (.int .i64 m.1) ∧ w.cell? ⟨b, o + i * 4 + 1, none⟩ = some (.int .i64 m.2.1) ∧ w.cell? ⟨b, o + i * 4 + 2, none⟩ = some (.int .i64 m.2.2.1) ∧ w.cell? ⟨b, o + i * 4 + 3, none⟩ = some (.int .i64 m.2.2.2)) n fun i hi => by
    obtain ⟨b, o, rfl, -, hc⟩ := hat (by omega)
    obtain ⟨zs, -, hg⟩ := hc i hi
    refine ⟨(zs.getD 0 0, zs.getD 1 0, zs.getD 2 0, zs.getD 3 0), fun b' o' e => ?_⟩
    injection e with e
    injection e with e1 e2
    subst e1 e2
    exact ⟨hg 0 (by decide), hg 1 (by decide), hg 2 (by decide), hg 3 (by decide)⟩
  refine ⟨a, n, c, ms, rfl, hn, hl, fun hp => ?_⟩
  obtain ⟨b, o, e, hlt, -⟩ := hat hp
  exact ⟨b, o, e, hlt, fun i hi => hms i hi b o e⟩
end
end Go.Proofs.Ytanjkhclhcnnaaa
