/- Levels again, with the room of the slice that it returns. -/
import Derived.Test.YtanjkhclhcnnaaaGM
namespace Go.Proofs.Ytanjkhclhcnnaaa
open Go.RowKit Go.Shelf
attribute [local go_sem] Oper.semAt_some

theorem row_spc {W : World} {base : Nat} {e : TypeId} {v : Value} {L : List T2} (h : W.ownsRow base e 2 v L.length (flat2 L)) (hn : 0 < L.length) : ∃ q cap C, v = .slice (some ⟨q, 0, none⟩) L.length cap ∧ (base ≤ q ∧ L.length ≤ cap) ∧ Ob W q e C ∧ SpC C L := by
  rcases h.2 with ⟨-, h2⟩ | ⟨q, cap, cur, h1, h2, h3, h4, h5, h6, h7⟩
  · omega
  · refine ⟨q, cap, cur, h1, ⟨h2, h4⟩, h3, ⟨by omega, fun i hi => ?_⟩⟩
    obtain ⟨k1, k2⟩ := flat2_at L i hi
    rw [← h7, List.getElem?_take_of_lt (by omega)] at k1 k2
    exact ⟨by simpa using k1, by simpa using k2⟩
set_option maxRecDepth 100000 in
set_option maxHeartbeats 8000000 in
theorem reachedC_any (t : TkA) (hs ws : List T2) (sa : Option Addr) (sc N : Nat) (ss : List T2) (ts : List T3) (mor : Nat → Nat) (w : World) (hO : RuOK t.r hs ws) (hN : N ≤ 1000) (hsl : Sl2 w sa N ss) (hst : ∀ s ∈ ss, StrOK s)
    (hT : Sl3 w t.ta t.tn ts) (htn : t.tn ≤ 20) (hge : ∀ i, i < t.tn → 0 ≤ (ts.getD i (0, 0, 0)).2.1 ∧ (ts.getD i (0, 0, 0)).2.1 ≤ 3 ∧ 0 ≤ (ts.getD i (0, 0, 0)).2.2 ∧ (ts.getD i (0, 0, 0)).2.2 ≤ 3)
    (hmo : ∀ i, i < t.tn → (ts.getD i (0, 0, 0)).1 - t.first = (mor i : Int) ∧ mor i ≤ N) (hcan : CanOK (t.lo, t.hi)) :
    Calls Try.prog 88 #[.agg (t.xc (.slice sa N sc))] w fun e W' => ∃ g cap C sv, e = .returned (.tuple #[.slice (some ⟨g, 0, none⟩) (N + 1) cap, sv]) ∧ (w.heap.size ≤ g ∧ N + 1 ≤ cap) ∧ Ob W' g 28 C ∧
      SpC C (reachS t.r ss ts mor ⟨orderL ts t.tn, [], (t.lo, t.hi), [], []⟩ (List.range (N + 1))).lev ∧
      W'.ownsRow w.heap.size 78 2 sv (reachS t.r ss ts mor ⟨orderL ts t.tn, [], (t.lo, t.hi), [], []⟩ (List.range (N + 1))).struck.length (flat2 (reachS t.r ss ts mor ⟨orderL ts t.tn, [], (t.lo, t.hi), [], []⟩ (List.range (N + 1))).struck) ∧ Below w.heap.size w W' := by
  have hLl := orderL_len ts t.tn
  have hLlt := orderL_lt ts t.tn
  have hLu : ∀ a b, a < b → b < t.tn → mor ((orderL ts t.tn).getD a 0) ≤ mor ((orderL ts t.tn).getD b 0) := fun a b hab hb => by
    have h1 := orderL_up ts t.tn a b hab hb
    have h2 := hmo _ (getD_mem_lt hLlt (j := a) (by omega))
    have h3 := hmo _ (getD_mem_lt hLlt (j := b) (by omega))
    unfold dayOf at h1
    omega
  have HI0 := fun W2 (hb2 : Below w.heap.size w W2) => inOrder_any ts t.ta t.tn t.tc W2 (hT.below hb2) htn
  generalize orderL ts t.tn = L at *
  obtain ⟨W2, hW2⟩ : ∃ W2, ((w.alloc (.cells (t.xc (.slice sa N sc)) 104)).alloc (.cells #[.slice none 0 0] 49)).alloc (.cells #[.slice none 0 0] 50) = W2 := ⟨_, rfl⟩
  have hb2 : Below w.heap.size w W2 := by rw [← hW2]; exact B_alloc (B_alloc (B_alloc (Below.refl _ _) _) _) _
  have z2 : W2.heap.size = w.heap.size + 1 + 1 + 1 := by rw [← hW2]; simp
  have hT2 : Ob W2 w.heap.size 104 (t.xc (.slice sa N sc)) := by rw [← hW2]; exact ((Ob.new w _ _).alloc _).alloc _
  have hL2 : Ob W2 (w.heap.size + 1) 49 #[.slice none 0 0] := by
    rw [← hW2]
    have h := (Ob.new (w.alloc (.cells (t.xc (.slice sa N sc)) 104)) #[.slice none 0 0] 49).alloc (.cells #[.slice none 0 0] 50)
    rw [World.size_alloc] at h
    exact h
  have hS2 : Ob W2 (w.heap.size + 1 + 1) 50 #[.slice none 0 0] := by
    rw [← hW2]
    have h := Ob.new ((w.alloc (.cells (t.xc (.slice sa N sc)) 104)).alloc (.cells #[.slice none 0 0] 49)) #[.slice none 0 0] 50
    rw [World.size_alloc, World.size_alloc] at h
    exact h
  have HI := Lib.hid (HI0 W2 hb2)
  have kt : ∀ j, W2.cell? ⟨w.heap.size, j, none⟩ = (t.xc (.slice sa N sc))[j]? := fun j => hT2.cell j
  have k12 := kt 12
  simp only [List.getElem?_toArray, List.getElem?_cons_zero, List.getElem?_cons_succ] at k12
  clear kt
  replace hb2 := Lib.hid hb2
  replace hT2 := Lib.hid hT2
  replace hL2 := Lib.hid hL2
  replace hS2 := Lib.hid hS2
  replace hW2 := Lib.hid hW2
  refine (callsIn_wide (n := 12)).1 ?_
  refine callsIn_of_wp_marks Try.func88 rfl trivial ?_ rfl
  simp only [Try.ntmps88, List.size_toArray, List.length_cons, List.length_nil, Nat.reduceAdd, Nat.reduceSub, Array.replicate_succ, Array.replicate_zero, List.push_toArray, List.append_toArray, List.nil_append, List.cons_append]
  gi_wp2_with fail
  rw [hW2.out]
  refine ⟨trivial, CallsIn.mono (callsIn_wide.2 HI.out) ?_⟩
  rintro e W3 ⟨g, rfl, hg, hG, hb3⟩
  have o1 := hT2.out.below hb3
  have o2 := hL2.out.below hb3
  have o3 := hS2.out.below hb3
  have hgb := B_trans hb2.out hb3
  have hgl := hG.lt
  have kt : ∀ j, W3.cell? ⟨w.heap.size, j, none⟩ = (t.xc (.slice sa N sc))[j]? := fun j => o1.cell j
  have k9 := kt 9
  have k10 := kt 10
  have k11 := kt 11
  simp only [List.getElem?_toArray, List.getElem?_cons_zero, List.getElem?_cons_succ] at k9 k10 k11
  have ol := o1.lt
  have k9' : ∀ a b c, (((W3.alloc a).alloc b).alloc c).cell? ⟨w.heap.size, 9, none⟩ = some (.slice sa N sc) := fun a b c => (((o1.alloc a).alloc b).alloc c).cell 9
  have u1 : IntKind.i64.wrap ((N : Int) + 1) = (N : Int) + 1 := IntWalk.i64_in _ (by omega)
  have P := Lib.hid (And.intro o1 (And.intro o2 (And.intro o3 (And.intro hG hgb))))
  clear kt o1 o2 o3 hG hgb k12 HI HI0 hT2 hL2 hS2 hW2 k9
  obtain ⟨W4, hW4⟩ : ∃ W4, ((W3.alloc (.cells #[.slice (some ⟨g, 0, none⟩) t.tn t.tn] 46)).alloc (.cells #[.slice none 0 0] 46)).alloc (.cells #[.int .i64 t.lo, .int .i64 t.hi] 28) = W4 := ⟨_, rfl⟩
  replace hW4 := Lib.hid hW4
  gi_wp2_with fail
  rw [hW4.out]
  refine ⟨trivial, (forward_in Fence.wide 11 trivial rfl 0 (N + 1) W4).mono ?_⟩
  rintro e W5 ⟨rfl, hW5⟩
  obtain ⟨z, hz⟩ : ∃ z, W3.heap.size = z := ⟨_, rfl⟩
  have z4 : W4.heap.size = z + 3 := by rw [← hW4.out, ← hz]; simp
  have z5 : W5.heap.size = z + 5 := by rw [hW5]; simp; omega
  have hb45 : Below W4.heap.size W4 W5 := by rw [hW5]; exact B_alloc (B_alloc (Below.refl _ _) _) _
  have d0 : W5.cell? ⟨W4.heap.size, 0, none⟩ = some (.int .i64 0) := by rw [hW5, alloc_old _ _ _ _ (by simp)]; simp [go_sem]
  have d1 : W5.cell? ⟨W4.heap.size + 1, 0, none⟩ = some (.int .i64 ((N : Int) + 1)) := by rw [hW5]; simp
  have hb34 : Below W3.heap.size W3 W4 := by rw [← hW4.out]; exact B_alloc (B_alloc (B_alloc (Below.refl _ _) _) _) _
  have hb35 := B_trans hb34 hb45
  have I0 : Hid (RM t (.slice sa N sc) w W5 z g t.tn L [] (.slice none 0 0) (.slice none 0 0) 0 [] (.slice none 0 0) (.slice none 0 0) (t.lo, t.hi) [] (.slice none 0 0) (.slice none 0 0) W5) := by
    obtain ⟨p1, p2, p3, p4, p5⟩ := P.out
    refine ⟨⟨by omega, by omega⟩, p1.below hb35, p2.below hb35, p3.below hb35, p4.below hb35, ?_, ?_, ?_, World.ownsRow_nil _ _ _ _, World.ownsRow_nil _ _ _ _, World.ownsRow_nil _ _ _ _, B_trans p5 hb35, KeepsFrom.refl _ _, KB2.refl _ _ _, by omega⟩
    · refine Ob.below ?_ hb45
      rw [← hW4.out, ← hz, Nat.zero_min, Nat.sub_zero]
      exact ((Ob.new W3 _ _).alloc _).alloc _
    · refine Ob.below ?_ hb45
      rw [← hW4.out, ← hz]
      have h := (Ob.new (W3.alloc (.cells #[.slice (some ⟨g, 0, none⟩) t.tn t.tn] 46)) #[.slice none 0 0] 46).alloc (.cells #[.int .i64 t.lo, .int .i64 t.hi] 28)
      rw [World.size_alloc] at h
      exact h
    · refine Ob.below ?_ hb45
      rw [← hW4.out, ← hz]
      have h := Ob.new ((W3.alloc (.cells #[.slice (some ⟨g, 0, none⟩) t.tn t.tn] 46)).alloc (.cells #[.slice none 0 0] 46)) #[.int .i64 t.lo, .int .i64 t.hi] 28
      rw [World.size_alloc, World.size_alloc] at h
      exact h
  rw [hz, z4]
  rw [z4] at d0 d1
  have hgg := I0.out.gg
  clear hW5 hb45 hb34 hb35 P hW4 k9' k10 k11 hz z4 hgl hg hb3 ol hb2 z2
  gi_wp2_with fail
  refine wpIn_rangeFunc_ownG rfl (by omega) (gf := 87) (lb := #[.pointer (some ⟨z + 3, 0, none⟩), .pointer (some ⟨z + 3 + 1, 0, none⟩)]) rfl trivial (enters_of Try.func87 (by kernel_rfl) rfl) (forward_stops Fence.wide 11 trivial rfl (by omega) (z + 3) (z + 3 + 1) (N + 1) 0 (N + 1) (by push_cast; omega) (by omega) (by omega) (by omega) W5 (by omega) (by omega) d0 d1) KB2.trans (fun W l o o' h1 _ _ _ => KB2.put (n := W5.heap.size) (by omega) (by omega) W l o' h1) (Below.refl _ _) (fun _ => rfl)
    (fun pre W => JR t (.slice sa N sc) w z g mor L t.tn (reachS t.r ss ts mor ⟨L, [], (t.lo, t.hi), [], []⟩ (pre.map fun x => x.val)) pre.length W)
    (fun _ _ _ => False)
    ?own (fun _ _ _ _ _ hs _ _ => hs) ⟨0, _, _, _, I0.out, ⟨rfl, Nat.zero_le _, (fun i hi => by cases hi), Nat.le_refl _, Nat.le_refl _, hcan, rfl⟩⟩ ?a1 ?assign ?body ?done ?stop
  case own =>
    rintro pre W W' row ⟨c, lv, tv, sv, h1, h2⟩ hgr hr
    exact ⟨c, lv, tv, sv, h1.own hgr (fun r e => ⟨by have := (hr r e).1; omega, (hr r e).2⟩), h2⟩
  case assign =>
    intro l x W K hK
    gi_wp2
    exact hK
  case body =>
    rintro l pre x W ⟨c, lv, tv, sv, hM, hJ⟩ hlen
    have hx := x.isLt
    obtain ⟨m, hm, hmm⟩ : ∃ m : Nat, ((x.val : Int) = m) ∧ m = x.val := ⟨x.val, rfl, rfl⟩
    have hmN : m ≤ N := by omega
    have hstep : Hid (reachS t.r ss ts mor ⟨L, [], (t.lo, t.hi), [], []⟩ ((pre ++ [x]).map fun x => x.val) = stepR t.r ss ts mor (reachS t.r ss ts mor ⟨L, [], (t.lo, t.hi), [], []⟩ (pre.map fun x => x.val)) m) := by
      rw [Hid, hmm, List.map_append, List.map_cons, List.map_nil, reach_snoc]
    have hlp : Hid ((pre ++ [x]).length = pre.length + 1) := by rw [Hid]; simp
    generalize reachS t.r ss ts mor ⟨L, [], (t.lo, t.hi), [], []⟩ (pre.map fun x => x.val) = S at hM hJ hstep
    obtain ⟨sw, tk, can, st, lev⟩ := S
    obtain ⟨j1, j2, j3, j4, j5, j6, j7⟩ := hJ
    simp only at hM j1 j2 j3 j4 j5 j6 j7
    subst j1
    have j8 : lev.length ≤ N := by omega
    replace j7 := Lib.hid j7
    clear hmm hlen hx
    replace hM := Lib.hid hM.start
    gi_upto_region 6 with fail
    rw [hm]
    clear hm
    rename_i KR haR KC haC
    have HC : ∀ (v24 v25 v26 v27 v28 v29 v30 v31 v32 v33 : Value) (b : Bool) (W1 : World), RM t (.slice sa N sc) w W z g t.tn L lev lv lv c tk tv tv (canS t.r ss m can) st sv sv W1 → KR { tmps := #[.agg (t.xc (.slice sa N sc)), .pointer (some ⟨w.heap.size, 0, none⟩), .pointer (some ⟨w.heap.size + 1, 0, none⟩), .pointer (some ⟨w.heap.size + 1 + 1, 0, none⟩), .pointer (some ⟨z, 0, none⟩), .pointer (some ⟨z + 1, 0, none⟩), .pointer (some ⟨z + 1 + 1, 0, none⟩), .int .i64 (m : Nat), undef, undef, undef, .pointer (some ⟨w.heap.size, 12, none⟩), .slice t.ta t.tn t.tc, .slice (some ⟨g, 0, none⟩) t.tn t.tn, .pointer (some ⟨w.heap.size, 10, none⟩), .agg #[.int .i64 t.lo, .int .i64 t.hi], .pointer (some ⟨w.heap.size, 9, none⟩), .slice sa N sc, .int .i64 N, .int .i64 ((N : Int) + 1), .func (.func 87) #[] #[.pointer (some ⟨z + 3, 0, none⟩), .pointer (some ⟨z + 3 + 1, 0, none⟩)], .int .i64 (m : Nat), .int .i64 (m : Nat), .bool b, v24, v25, v26, v27, v28, v29, v30, v31, v32, v33, undef, undef, undef, undef, undef, undef, undef, undef, undef, undef, undef, undef, undef, undef, undef, undef, undef, undef, undef, undef, undef, undef, undef, undef, undef, undef, undef, undef, undef, undef, undef, undef, undef, undef, undef, undef, undef, undef, undef, undef, undef, undef, undef, undef, undef, undef, undef, undef, undef, undef, undef], defers := [] } W1 := by
      intro v24 v25 v26 v27 v28 v29 v30 v31 v32 v33 b W1 hM1
      refine haR _ _ ?_
      clear haR haC hM
      obtain ⟨fin, hfin⟩ : ∃ fin, eatS t.r ss ts mor m (L.drop c) tk (canS t.r ss m can) st = fin := ⟨_, rfl⟩
      have jc := j6.can hO hsl.len hst (m := m) (by omega)
      replace hstep : Hid (reachS t.r ss ts mor ⟨L, [], (t.lo, t.hi), [], []⟩ ((pre ++ [x]).map fun x => x.val) = ⟨fin.1, fin.2.1, fin.2.2.1, fin.2.2.2, lev ++ [fin.2.2.1]⟩) := by
        rw [Hid, hstep.out]
        unfold stepR
        simp only
        rw [hfin]
      generalize canS t.r ss m can = can0 at hM1 hfin jc
      gi_wp2_with fail
      gi_loopg [] (t.tn - c) (fun gk wr => ∃ c tk tv can st sv, gk = t.tn - c ∧ RM t (.slice sa N sc) w W z g t.tn L lev lv lv c tk tv tv can st sv sv wr ∧ c ≤ t.tn ∧ TkInv mor L t.tn tk c ∧ tk.length ≤ c ∧ st.length ≤ c ∧ CanOK can ∧ eatS t.r ss ts mor m (L.drop c) tk can st = fin)
      case atStart => exact ⟨c, tk, tv, can0, st, sv, rfl, hM1, j2, j3, j4, j5, jc, hfin⟩
      case round =>
        clear hM1 hfin jc j2 j3 j4 j5 j6
        obtain ⟨c, tk, tv, can, st, sv, rfl, hM, c2, c3, c4, c5, c6', c6⟩ := hrel
        replace hM := Lib.hid hM
        replace c6 := Lib.hid c6
        gi_upto_region 8 with fail
        rename_i KA hA KB hB
        have HB : ∀ (q34 q35 q36 q37 q38 q39 q40 q41 q42 q43 q44 : Value) (b8 : Bool) (W1 : World), RM t (.slice sa N sc) w W z g t.tn L lev lv lv c tk tv tv can st sv sv W1 → (b8 = true → c < t.tn ∧ mor (L.getD c 0) = m) → (b8 = false → t.tn ≤ c ∨ mor (L.getD c 0) ≠ m) → KB { tmps := #[.agg (t.xc (.slice sa N sc)), .pointer (some ⟨w.heap.size, 0, none⟩), .pointer (some ⟨w.heap.size + 1, 0, none⟩), .pointer (some ⟨w.heap.size + 1 + 1, 0, none⟩), .pointer (some ⟨z, 0, none⟩), .pointer (some ⟨z + 1, 0, none⟩), .pointer (some ⟨z + 1 + 1, 0, none⟩), .int .i64 (m : Nat), u8, u9, u10, .pointer (some ⟨w.heap.size, 12, none⟩), .slice t.ta t.tn t.tc, .slice (some ⟨g, 0, none⟩) t.tn t.tn, .pointer (some ⟨w.heap.size, 10, none⟩), .agg #[.int .i64 t.lo, .int .i64 t.hi], .pointer (some ⟨w.heap.size, 9, none⟩), .slice sa N sc, .int .i64 N, .int .i64 ((N : Int) + 1), .func (.func 87) #[] #[.pointer (some ⟨z + 3, 0, none⟩), .pointer (some ⟨z + 3 + 1, 0, none⟩)], .int .i64 (m : Nat), .int .i64 (m : Nat), .bool b, v24, v25, v26, v27, v28, v29, v30, v31, v32, v33, q34, q35, q36, q37, q38, q39, q40, q41, q42, q43, q44, .bool b8, u46, u47, u48, u49, u50, u51, u52, u53, u54, u55, u56, u57, u58, u59, u60, u61, u62, u63, u64, u65, u66, u67, u68, u69, u70, u71, u72, u73, u74, u75, u76, u77, u78, undef, undef, undef, undef, undef, undef], defers := [] } W1 := by
          intro q34 q35 q36 q37 q38 q39 q40 q41 q42 q43 q44 b8 W1 hM1 hb1 hb0
          refine hB _ _ ?_
          clear hB hM
          cases b8 with
          | false =>
            have hdone : Hid ((L.drop c, tk, can, st) = fin) := by
              rw [Hid, ← c6.out]
              rcases Nat.lt_or_ge c t.tn with h1 | h1
              · rcases hb0 rfl with h | h
                · omega
                · rw [drop_at (by omega), eat_no _ _ _ _ _ _ _ _ h]
              · rw [List.drop_eq_nil_of_le (by omega), eat_nil]
            clear hb0 hb1 c6 hA
            obtain ⟨b0, -, -, -, b4, b5⟩ := hM1.boxes
            replace hM1 := Lib.hid hM1
            obtain ⟨i28, hi28, hz28, hs28, hy28⟩ := info_parts infoSpan
            gi_wp2_with (gi_at_builtin; refine wpListIn_append_own _ rfl _ _ 49 rfl (z + 5) 28 i28 (.agg #[.int .i64 0, .int .i64 0]) 2 16 Try.underlying49 hi28 hz28 hs28 hy28 rfl (by decide) _ _ _ rfl ((hM1.out.below (B_alloc (Below.refl _ _) _)).rL) ⟨W1.heap.size, 0, none⟩ 1 1 [.int .i64 can.1, .int .i64 can.2] rfl rfl ?c1 ?c2 ?c3 ?c4 ?c5 ?_)
            case c1 =>
              intro j u h
              rw [show (⟨W1.heap.size, 0, none⟩ : Addr).add j = ⟨W1.heap.size, j, none⟩ by simp [Addr.add, eq_comm]]
              rw [(Ob.new W1 #[.int .i64 can.1, .int .i64 can.2] 28).cell]
              simpa using h
            case c2 => intro u hu; simp at hu; rcases hu with rfl | rfl <;> rfl
            case c3 => unfold maxLen; omega
            case c4 => omega
            case c5 => have := hM1.out.sz; simp; omega
            intro v' w1 hown' hgrow _
            obtain ⟨gL, capL, rfl⟩ := row_form hown' (by omega)
            have hM2 := (hM1.out.below (B_alloc (Below.refl _ _) (.cells #[.int .i64 can.1, .int .i64 can.2] 28))).addL hgrow hown'
            obtain ⟨b0', -⟩ := hM2.boxes
            obtain ⟨e0', -⟩ := hM2.free
            replace hM2 := Lib.hid (hM2.setL (.slice (some ⟨gL, 0, none⟩) (lev.length + 1) capL))
            clear hown' hgrow b0 b4 b5 hM1
            gi_wp2_with fail
            refine ⟨?_, hM2.out.kb, ?_⟩
            · have := hM2.out.kf
              rwa [← z5] at this
            · show JR t (.slice sa N sc) w z g mor L t.tn (reachS t.r ss ts mor ⟨L, [], (t.lo, t.hi), [], []⟩ ((pre ++ [x]).map fun x => x.val)) (pre ++ [x]).length _
              rw [hstep.out, ← hdone.out]
              exact ⟨c, _, tv, sv, hM2.out.start, ⟨rfl, c2, c3, c4, c5, c6', by rw [hlp.out]; simp [j7.out]⟩⟩
          | true =>
            obtain ⟨hcn, hmi⟩ := hb1 rfl
            clear hb0 hb1
            obtain ⟨-, -, b2, -, -, -⟩ := hM1.boxes
            have b9 := hM1.head (by omega)
            obtain ⟨d, hd⟩ : ∃ d, t.tn - c = d := ⟨_, rfl⟩
            rw [hd, show min c (t.tn - 1) = c by omega] at b2
            have hd0 : 0 < d := by omega
            have hil := getD_mem_lt hLlt (j := c) (by omega)
            obtain ⟨i, hi⟩ : ∃ i, L.getD c 0 = i := ⟨_, rfl⟩
            rw [hi] at b9 hmi hil
            replace hM1 := Lib.hid hM1
            replace hd := Lib.hid hd
            gi_upto_region 11 with fail
            rename_i K9 h9 K10 h10 K11 h11
            clear h9
            obtain ⟨tb, tj, hta, htb, hcc⟩ := (hT.below hM1.out.bw).at_ (by omega)
            obtain ⟨y0, y1, y2⟩ := hcc i hil
            have hgg2 := hge i hil
            obtain ⟨kp, hkp⟩ : ∃ kp, keepT t.r ts i = kp := ⟨_, rfl⟩
            have hkp2 : keepS t.r (ts.getD i (0, 0, 0)).2.1 (ts.getD i (0, 0, 0)).2.2 = kp := hkp
            have hkin := keep_in hO (ts.getD i (0, 0, 0)).2.1 (ts.getD i (0, 0, 0)).2.2
            rw [hkp2] at hkin
            generalize ts.getD i (0, 0, 0) = xx at y0 y1 y2 hgg2 hkp2
            obtain ⟨x0, x1, x2⟩ := xx
            simp only at y0 y1 y2 hgg2 hkp2
            have HKp := Lib.hid (fun W' => keeping_any t.r hs ws x0 x1 x2 W' hO ⟨hgg2.1, hgg2.2.1⟩ ⟨hgg2.2.2.1, hgg2.2.2.2⟩)
            rw [hkp2] at HKp
            have HCm := Lib.hid (fun W' => common_any can.1 can.2 kp.1 kp.2 W')
            obtain ⟨p1, hp1⟩ : ∃ p1, max can.1 kp.1 = p1 := ⟨_, rfl⟩
            obtain ⟨p2, hp2⟩ : ∃ p2, min can.2 kp.2 = p2 := ⟨_, rfl⟩
            obtain ⟨bb, hbb⟩ : ∃ bb, decide (p1 ≤ p2) = bb := ⟨_, rfl⟩
            rw [hp1, hp2, hbb] at HCm
            have HS := Lib.hid (fun (W' : World) (hh : Below W1.heap.size W1 W') => (show (W'.cell? ⟨w.heap.size, 0, none⟩ = some (.slice t.r.ha t.r.hn t.r.hc) ∧ W'.cell? ⟨w.heap.size, 1, none⟩ = some (.slice t.r.wa t.r.wn t.r.wc) ∧ W'.cell? ⟨w.heap.size, 2, none⟩ = some (.int .i64 t.r.own) ∧ W'.cell? ⟨w.heap.size, 3, none⟩ = some (.int .i64 t.r.feed) ∧ W'.cell? ⟨w.heap.size, 4, none⟩ = some (.int .i64 t.r.g0) ∧ W'.cell? ⟨w.heap.size, 5, none⟩ = some (.int .i64 t.r.g1) ∧ W'.cell? ⟨w.heap.size, 6, none⟩ = some (.int .i64 t.r.g2) ∧ W'.cell? ⟨w.heap.size, 7, none⟩ = some (.int .i64 t.r.lost) ∧ W'.cell? ⟨w.heap.size, 8, none⟩ = some (.int .i64 t.first) ∧ W'.cell? ⟨w.heap.size, 9, none⟩ = some (.slice sa N sc) ∧ W'.cell? ⟨w.heap.size, 10, none⟩ = some (.int .i64 t.lo) ∧ W'.cell? ⟨w.heap.size, 11, none⟩ = some (.int .i64 t.hi) ∧ W'.cell? ⟨w.heap.size, 12, none⟩ = some (.slice (some ⟨tb, tj, none⟩) t.tn t.tc)) ∧ W'.cell? ⟨tb, tj + i * 3, none⟩ = some (.int .i64 x0) ∧ W'.cell? ⟨tb, tj + i * 3 + 1, none⟩ = some (.int .i64 x1) ∧ W'.cell? ⟨tb, tj + i * 3 + 2, none⟩ = some (.int .i64 x2) ∧ W'.cell? ⟨z + 1 + 1, 0, none⟩ = some (.int .i64 can.1) ∧ W'.cell? ⟨z + 1 + 1, 1, none⟩ = some (.int .i64 can.2) from ⟨by have h := (hM1.out.below hh).cells; rwa [hta] at h, (hh.cell (p := ⟨tb, _, none⟩) htb).trans y0, (hh.cell (p := ⟨tb, _, none⟩) htb).trans y1, (hh.cell (p := ⟨tb, _, none⟩) htb).trans y2, ((hM1.out.below hh).boxes).2.2.2.2.1, ((hM1.out.below hh).boxes).2.2.2.2.2⟩))
            have a1 : (0 : Int) ≤ i := by omega
            have a2 : (i : Int) < t.tn := by omega
            have HC2 : ∀ (b9 : Nat) (W2 : World), W1.heap.size ≤ b9 → Ob W2 b9 28 #[.int .i64 p1, .int .i64 p2] → Below W1.heap.size W1 W2 → K11 { tmps := #[.agg (t.xc (.slice sa N sc)), .pointer (some ⟨w.heap.size, 0, none⟩), .pointer (some ⟨w.heap.size + 1, 0, none⟩), .pointer (some ⟨w.heap.size + 1 + 1, 0, none⟩), .pointer (some ⟨z, 0, none⟩), .pointer (some ⟨z + 1, 0, none⟩), .pointer (some ⟨z + 1 + 1, 0, none⟩), .int .i64 (m : Nat), .int .i64 (i : Nat), .pointer (some ⟨b9, 0, none⟩), .bool bb, .pointer (some ⟨w.heap.size, 12, none⟩), .slice t.ta t.tn t.tc, .slice (some ⟨g, 0, none⟩) t.tn t.tn, .pointer (some ⟨w.heap.size, 10, none⟩), .agg #[.int .i64 t.lo, .int .i64 t.hi], .pointer (some ⟨w.heap.size, 9, none⟩), .slice sa N sc, .int .i64 N, .int .i64 ((N : Int) + 1), .func (.func 87) #[] #[.pointer (some ⟨z + 3, 0, none⟩), .pointer (some ⟨z + 3 + 1, 0, none⟩)], .int .i64 (m : Nat), .int .i64 (m : Nat), .bool b, v24, v25, v26, v27, v28, v29, v30, v31, v32, v33, q34, q35, q36, q37, q38, q39, q40, q41, q42, q43, q44, .bool true, u46, u47, .slice (some ⟨g, c, none⟩) d d, .pointer (some ⟨g, c, none⟩), .int .i64 (i : Nat), .tuple #[.agg #[.int .i64 p1, .int .i64 p2], .bool bb], .agg #[.int .i64 can.1, .int .i64 can.2], .pointer (some ⟨w.heap.size, 0, none⟩), .agg t.r.cs, .pointer (some ⟨w.heap.size, 12, none⟩), .slice (some ⟨tb, tj, none⟩) t.tn t.tc, .int .i64 (i : Nat), .pointer (some ⟨tb, tj + i * 3, none⟩), .agg #[.int .i64 x0, .int .i64 x1, .int .i64 x2], .agg #[.int .i64 kp.1, .int .i64 kp.2], .tuple #[.agg #[.int .i64 p1, .int .i64 p2], .bool bb], .agg #[.int .i64 p1, .int .i64 p2], .bool bb, u64, u65, u66, u67, u68, u69, u70, u71, u72, u73, u74, u75, u76, u77, u78, undef, undef, undef, undef, undef, undef], defers := [] } W2 := by
              intro b9 W2 hb9 o9 hB2
              refine h11 _ _ ?_
              clear h11 HS HKp HCm
              have hM2 := Lib.hid (hM1.out.below hB2)
              replace o9 := Lib.hid o9
              clear hta y0 y1 y2 hcc htb
              cases bb with
              | true =>
                have hpp := of_decide_eq_true hbb
                gi_upto_region 13 with fail
                refine wpIn_region_steps2 (I := I13 (fun tk tv bk p W' => RM t (.slice sa N sc) w W z g t.tn L lev lv lv c tk tv bk p st sv sv W') b9 i tk tv can (p1, p2)) (V := V13 i tv (p1, p2)) (eff := eff13) (need := need13) (till := till13) 4 (by kernel_rfl) (by decide) (by kernel_rfl) rfl (by kernel_rfl) (by kernel_rfl) (by kernel_rfl) (by kernel_rfl) (by kernel_rfl) (by kernel_rfl) ⟨fun _ => o9.out, fun _ => hM2.out.below (Below.refl _ _).drew, fun h => by omega, fun h => by omega, fun h => by omega, fun h => by omega⟩ ?steps ?hend
                case hend =>
                  rintro outs w' ⟨-, -, -, -, -, hI⟩
                  have hM4 := Lib.hid (hI rfl)
                  clear hI
                  simp only [flowAct, List.filterMap_cons, List.filterMap_nil, patch, List.setIfInBounds_toArray, List.set_cons_zero, List.set_cons_succ]
                  obtain ⟨-, -, b2, -, -, -⟩ := hM4.out.boxes
                  obtain ⟨-, -, e2, -, -, -⟩ := hM4.out.free
                  rw [hd.out, show min c (t.tn - 1) = c by omega] at b2
                  clear hM2 o9 hM1
                  rcases Nat.lt_or_ge 1 d with h1d | h1d
                  · have hne : ¬ d = 1 := by omega
                    have hd2 : (1 : Int) ≤ d := by omega
                    have hd3 : 1 ≤ d := by omega
                    gi_wp2_with fail
                    gi_roundg (t.tn - (c + 1))
                    case measure => omega
                    case rel =>
                      refine ⟨c + 1, tk ++ [i], outs 1, (p1, p2), st, sv, rfl, hM4.out.setW _ (by have := hd.out; rw [show min (c + 1) (t.tn - 1) = c + 1 by omega, show t.tn - (c + 1) = d - 1 by omega]), hcn, ?_, by simp; omega, by omega, ?_, ?_⟩
                      · have h := c3.take (c := c) (L := L) (by rw [hi]; exact hil) (fun q h1 h2 => hLu c q h1 h2)
                        rwa [hi] at h
                      · have h := c6'.both hkin (by rw [hp1, hp2]; exact hpp)
                        rwa [hp1, hp2] at h
                      · rw [← c6.out, drop_at (L := L) (c := c) (by omega), hi, eat_take _ _ _ _ _ _ _ _ hmi (by rw [hkp, hp1, hp2]; exact hpp), hkp, hp1, hp2]
                  · obtain rfl : d = 1 := by omega
                    gi_wp2_with fail
                    gi_roundg (t.tn - (c + 1))
                    case measure => omega
                    case rel =>
                      refine ⟨c + 1, tk ++ [i], outs 1, (p1, p2), st, sv, rfl, hM4.out.setW _ (by have := hd.out; rw [show min (c + 1) (t.tn - 1) = c by omega, show t.tn - (c + 1) = 0 by omega]), hcn, ?_, by simp; omega, by omega, ?_, ?_⟩
                      · have h := c3.take (c := c) (L := L) (by rw [hi]; exact hil) (fun q h1 h2 => hLu c q h1 h2)
                        rwa [hi] at h
                      · have h := c6'.both hkin (by rw [hp1, hp2]; exact hpp)
                        rwa [hp1, hp2] at h
                      · rw [← c6.out, drop_at (L := L) (c := c) (by omega), hi, eat_take _ _ _ _ _ _ _ _ hmi (by rw [hkp, hp1, hp2]; exact hpp), hkp, hp1, hp2]
                case steps =>
                    refine ⟨⟨rfl, fun t ht k' outs u _ => by cases ht; rfl, fun k' outs W' ρ hk1 hk2 hI hc hg h_fn hr ho => ?_⟩, ?_⟩
                    · have o9 := ho 9 (by kernel_rfl)
                      have hk2' : k' ≤ 2 := hk2
                      have hO9 := hI.1 (by omega)
                      have v0 := hO9.cell 0
                      have v1 := hO9.cell 1
                      simp only [List.getElem?_toArray, List.getElem?_cons_zero, List.getElem?_cons_succ] at v0 v1
                      clear hO9
                      clear hI
                      refine step_pure rfl (v := .agg #[.int .i64 p1, .int .i64 p2]) (fun t ht => by cases ht; rfl) ?_
                      go_simp
                    refine ⟨⟨rfl, fun t ht k' outs u _ => by cases ht; rfl, fun k' outs W' ρ hk1 hk2 hI hc hg h_fn hr ho => ?_⟩, ?_⟩
                    · have o5 := ho 5 (by kernel_rfl)
                      have hk2' : k' ≤ 1 := hk2
                      obtain ⟨-, -, -, b3, -, -⟩ := (hI.2.1 (by omega)).boxes
                      clear hI
                      refine step_pure rfl (v := tv) (fun t ht => by cases ht; rfl) ?_
                      go_simp
                    refine ⟨⟨rfl, fun t ht k' outs u _ => by cases ht; rfl, fun k' outs W' ρ hk1 hk2 hI hc hg h_fn hr ho => ?_⟩, ?_⟩
                    · have o8 := ho 8 (by kernel_rfl)
                      clear hI
                      refine step_pure rfl (v := .int .i64 i) (fun t ht => by cases ht; rfl) ?_
                      go_simp
                    refine ⟨⟨rfl, fun t ht k' outs u (h : 0 < k') => by cases ht; show upd outs k' u 0 = outs 0; unfold upd; rw [if_neg (by omega)], fun k' outs W' ρ hk1 hk2 hI hc hg h_fn hr ho => ?_⟩, ?_⟩
                    · obtain rfl : k' = 0 := by have h1 : 0 ≤ k' := hk1; have h2 : k' ≤ 0 := hk2; omega
                      have r67 : ρ (.tmp 67) = .int .i64 i := hr 67 (by kernel_rfl)
                      have hbl := B_alloc (Below.refl W'.heap.size W') (.cells #[.int .i64 (i : Nat)] 3)
                      refine step_new rfl (v := .slice (some ⟨W'.heap.size, 0, none⟩) 1 1) (w' := W'.alloc (.cells #[.int .i64 (i : Nat)] 3)) ?_ ⟨fun _ => (hI.1 (by omega)).below hbl, fun _ => (hI.2.1 (by omega)).below hbl, fun _ => ⟨_, rfl, Ob.new _ _ _⟩, fun h => by omega, fun h => by omega, fun h => by omega⟩ (fun t ht => by cases ht; rfl)
                      clear hI hbl; go_simp
                    refine ⟨⟨rfl, fun t ht k' outs u (h : 1 < k') => by cases ht; show upd outs k' u 1 = outs 1; unfold upd; rw [if_neg (by omega)], fun k' outs W' ρ hk1 hk2 hI hc hg h_fn hr ho => ?_⟩, ?_⟩
                    · obtain rfl : k' = 1 := by have h1 : 1 ≤ k' := hk1; have h2 : k' ≤ 1 := hk2; omega
                      have r66 : ρ (.tmp 66) = tv := hr 66 (by kernel_rfl)
                      have r68 : ρ (.tmp 68) = outs 0 := hr 68 (by kernel_rfl)
                      obtain ⟨qn, hq1, hq2⟩ := hI.2.2.1 rfl
                      replace r68 := r68.trans hq1
                      have hM3 := hI.2.1 (by omega)
                      have ho9 := hI.1 (by omega)
                      obtain ⟨v', w2, hrun, hown, hgr⟩ := joinedI hM3.rK hq2 (by omega) hM3.sz
                      exact step_new rfl (run_append_op rfl r66 r68 hrun) ⟨fun _ => ho9.grown hgr (ho9.row hM3.rK (by decide)), fun h => by omega, fun h => by omega, fun _ => hM3.addK hgr hown, fun h => by omega, fun h => by omega⟩ (fun t ht => by cases ht; rfl)
                    refine ⟨⟨rfl, (fun t ht => by cases ht), fun k' outs W' ρ hk1 hk2 hI hc hg h_fn hr ho => ?_⟩, ?_⟩
                    · obtain rfl : k' = 2 := by have h1 : 2 ≤ k' := hk1; have h2 : k' ≤ 2 := hk2; omega
                      have o6 := ho 6 (by kernel_rfl)
                      have r65 : ρ (.tmp 65) = .agg #[.int .i64 p1, .int .i64 p2] := hr 65 (by kernel_rfl)
                      have hM3 := hI.2.2.2.1 rfl
                      obtain ⟨-, -, -, -, b4, b5⟩ := hM3.boxes
                      obtain ⟨-, -, -, -, e4, e5⟩ := hM3.free
                      have hM4 := hM3.setC (p1, p2)
                      refine step_store rfl rfl (w' := (W'.setCell ⟨z + 1 + 1, 0, none⟩ (.int .i64 p1)).setCell ⟨z + 1 + 1, 1, none⟩ (.int .i64 p2)) ?_ ⟨fun h => by omega, fun h => by omega, fun h => by omega, fun h => by omega, fun _ => hM4, fun h => by omega⟩
                      clear hI hM3 hM4; go_simp
                    refine ⟨⟨rfl, (fun t ht => by cases ht), fun k' outs W' ρ hk1 hk2 hI hc hg h_fn hr ho => ?_⟩, trivial⟩
                    · obtain rfl : k' = 3 := by have h1 : 3 ≤ k' := hk1; have h2 : k' ≤ 3 := hk2; omega
                      have o5 := ho 5 (by kernel_rfl)
                      have r69 : ρ (.tmp 69) = outs 1 := hr 69 (by kernel_rfl)
                      have hM3 := hI.2.2.2.2.1 rfl
                      obtain ⟨qn, qc, hv⟩ := row_form hM3.rK (by simp)
                      replace r69 := r69.trans hv
                      obtain ⟨-, -, -, b3, -, -⟩ := hM3.boxes
                      obtain ⟨-, -, -, e3, -, -⟩ := hM3.free
                      have hM4 := hM3.setK (outs 1)
                      rw [hv] at hM4
                      refine step_store rfl rfl (w' := W'.setCell ⟨z + 1, 0, none⟩ (.slice (some ⟨qn, 0, none⟩) (tk ++ [i]).length qc)) ?_ ⟨fun h => by omega, fun h => by omega, fun h => by omega, fun h => by omega, fun h => by omega, fun _ => ?_⟩
                      · clear hI hM3 hM4; go_simp
                      · show RM t (.slice sa N sc) w W z g t.tn L lev lv lv c (tk ++ [i]) (outs 1) (outs 1) (p1, p2) st sv sv _
                        rw [hv]; exact hM4
              | false =>
                have hpp := of_decide_eq_false hbb
                obtain ⟨ka, kc, kb, ko, hv, hka, hkb, hkc⟩ := ints_row hM2.out.rK (b0 := w.heap.size) hM2.out.oT.lt
                subst hv
                have HBy := Lib.hid (fun (W' : World) (hh : Below W2.heap.size W2 W') => by_any t hs ws sa sc N ss ts mor ka tk.length kc kb ko tk i W' hO hN (hsl.below ((hM2.out.below hh).bw)) hst (hT.below ((hM2.out.below hh).bw)) (by omega) hge hmo hil (fun j hj => ⟨(c3 j hj).1, by have h := (c3 j hj).2 c (Nat.le_refl _) hcn; rwa [hi] at h⟩) rfl (by omega) hka (Nat.lt_of_lt_of_le hkb hh.size) (fun j hj => (hh.cell (p := ⟨kb, ko + j, none⟩) hkb).trans (hkc j hj)))
                obtain ⟨bY, hbY⟩ : ∃ bY, byS t.r ss ts mor i tk = bY := ⟨_, rfl⟩
                rw [hbY] at HBy
                gi_upto_region 14 with fail
                refine wpIn_region_steps2 (I := I14 (fun st sv bs W' => RM t (.slice sa N sc) w W z g t.tn L lev lv lv c tk (.slice ka tk.length kc) (.slice ka tk.length kc) can st sv bs W') W2 i bY st sv) (V := V14 i (t.xc (.slice sa N sc)) sv (.slice ka tk.length kc)) (eff := eff14) (need := need14) (till := till14) 4 (by kernel_rfl) (by decide) (by kernel_rfl) rfl (by kernel_rfl) (by kernel_rfl) (by kernel_rfl) (by kernel_rfl) (by kernel_rfl) (by kernel_rfl) ⟨fun _ => (Below.refl _ _).drew, fun _ => hM2.out.below (Below.refl _ _).drew, fun h => by omega, fun h => by omega, fun h => by omega, fun h => by omega⟩ ?steps ?hend
                case hend =>
                  rintro outs w' ⟨-, -, -, -, -, hI⟩
                  have hM4 := Lib.hid (hI rfl)
                  clear hI HBy
                  simp only [flowAct, List.filterMap_cons, List.filterMap_nil, patch, List.setIfInBounds_toArray, List.set_cons_zero, List.set_cons_succ]
                  obtain ⟨-, -, b2, -, -, -⟩ := hM4.out.boxes
                  obtain ⟨-, -, e2, -, -, -⟩ := hM4.out.free
                  rw [hd.out, show min c (t.tn - 1) = c by omega] at b2
                  clear hM2 o9 hM1
                  rcases Nat.lt_or_ge 1 d with h1d | h1d
                  · have hne : ¬ d = 1 := by omega
                    have hd2 : (1 : Int) ≤ d := by omega
                    have hd3 : 1 ≤ d := by omega
                    gi_wp2_with fail
                    gi_roundg (t.tn - (c + 1))
                    case measure => omega
                    case rel =>
                      refine ⟨c + 1, tk, .slice ka tk.length kc, can, st ++ [((i : Int), bY)], outs 2, rfl, hM4.out.setW _ (by have := hd.out; rw [show min (c + 1) (t.tn - 1) = c + 1 by omega, show t.tn - (c + 1) = d - 1 by omega]), hcn, c3.next, by omega, by simp; omega, c6', ?_⟩
                      rw [← c6.out, drop_at (L := L) (c := c) (by omega), hi, eat_strike _ _ _ _ _ _ _ _ hmi (by rw [hkp, hp1, hp2]; omega), hbY]
                  · obtain rfl : d = 1 := by omega
                    gi_wp2_with fail
                    gi_roundg (t.tn - (c + 1))
                    case measure => omega
                    case rel =>
                      refine ⟨c + 1, tk, .slice ka tk.length kc, can, st ++ [((i : Int), bY)], outs 2, rfl, hM4.out.setW _ (by have := hd.out; rw [show min (c + 1) (t.tn - 1) = c by omega, show t.tn - (c + 1) = 0 by omega]), hcn, c3.next, by omega, by simp; omega, c6', ?_⟩
                      rw [← c6.out, drop_at (L := L) (c := c) (by omega), hi, eat_strike _ _ _ _ _ _ _ _ hmi (by rw [hkp, hp1, hp2]; omega), hbY]
                case steps =>
                    refine ⟨⟨rfl, fun t ht k' outs u _ => by cases ht; rfl, fun k' outs W' ρ hk1 hk2 hI hc hg h_fn hr ho => ?_⟩, ?_⟩
                    · have o3 := ho 3 (by kernel_rfl)
                      have hk2' : k' ≤ 2 := hk2
                      obtain ⟨-, b1, -, -, -, -⟩ := (hI.2.1 (by omega)).boxes
                      clear hI
                      refine step_pure rfl (v := sv) (fun t ht => by cases ht; rfl) ?_
                      go_simp
                    refine ⟨⟨rfl, fun t ht k' outs u _ => by cases ht; rfl, fun k' outs W' ρ hk1 hk2 hI hc hg h_fn hr ho => ?_⟩, ?_⟩
                    · have o8 := ho 8 (by kernel_rfl)
                      clear hI
                      refine step_pure rfl (v := .int .i64 i) (fun t ht => by cases ht; rfl) ?_
                      go_simp
                    refine ⟨⟨rfl, fun t ht k' outs u _ => by cases ht; rfl, fun k' outs W' ρ hk1 hk2 hI hc hg h_fn hr ho => ?_⟩, ?_⟩
                    · have o1 := ho 1 (by kernel_rfl)
                      have hk2' : k' ≤ 0 := hk2
                      obtain ⟨f0, f1, f2, f3, f4, f5, f6, f7, f8, f9, f10, f11, f12⟩ := (hI.2.1 (by omega)).cells
                      clear hI
                      refine step_pure rfl (v := .agg (t.xc (.slice sa N sc))) (fun t ht => by cases ht; rfl) ?_
                      go_simp
                    refine ⟨⟨rfl, fun t ht k' outs u _ => by cases ht; rfl, fun k' outs W' ρ hk1 hk2 hI hc hg h_fn hr ho => ?_⟩, ?_⟩
                    · have o5 := ho 5 (by kernel_rfl)
                      have hk2' : k' ≤ 0 := hk2
                      obtain ⟨-, -, -, b3, -, -⟩ := (hI.2.1 (by omega)).boxes
                      clear hI
                      refine step_pure rfl (v := .slice ka tk.length kc) (fun t ht => by cases ht; rfl) ?_
                      go_simp
                    refine ⟨⟨rfl, fun t ht k' outs u _ => by cases ht; rfl, fun k' outs W' ρ hk1 hk2 hI hc hg h_fn hr ho => ?_⟩, ?_⟩
                    · have o8 := ho 8 (by kernel_rfl)
                      clear hI
                      refine step_pure rfl (v := .int .i64 i) (fun t ht => by cases ht; rfl) ?_
                      go_simp
                    refine ⟨⟨rfl, fun t ht k' outs u (h : 0 < k') => by cases ht; show upd outs k' u 0 = outs 0; unfold upd; rw [if_neg (by omega)], fun k' outs W' ρ hk1 hk2 hI hc hg h_fn hr ho => ?_⟩, ?_⟩
                    · obtain rfl : k' = 0 := by have h1 : 0 ≤ k' := hk1; have h2 : k' ≤ 0 := hk2; omega
                      have r72 : ρ (.tmp 72) = .agg (t.xc (.slice sa N sc)) := hr 72 (by kernel_rfl)
                      have r73 : ρ (.tmp 73) = .slice ka tk.length kc := hr 73 (by kernel_rfl)
                      have r74 : ρ (.tmp 74) = .int .i64 i := hr 74 (by kernel_rfl)
                      have hfn := h_fn 112
                      refine step_call rfl (f := 112) (args := #[.agg (t.xc (.slice sa N sc)), .slice ka tk.length kc, .int .i64 i]) (w' := W') ?_ ?_
                      · clear hI; go_simp
                      · refine (HBy.out W' (hI.1 rfl)).mono ?_
                        rintro e w2 ⟨rfl, hb2⟩
                        exact ⟨_, rfl, ⟨fun h => by omega, fun _ => (hI.2.1 (by omega)).below hb2, fun _ => rfl, fun h => by omega, fun h => by omega, fun h => by omega⟩, fun t ht => by cases ht; rfl⟩
                    refine ⟨⟨rfl, fun t ht k' outs u (h : 1 ≤ k') => by cases ht; show Value.agg #[.int .i64 (i : Nat), upd outs k' u 0] = Value.agg #[.int .i64 (i : Nat), outs 0]; unfold upd; rw [if_neg (by omega)], fun k' outs W' ρ hk1 hk2 hI hc hg h_fn hr ho => ?_⟩, ?_⟩
                    · have r71 : ρ (.tmp 71) = .int .i64 i := hr 71 (by kernel_rfl)
                      have r75 : ρ (.tmp 75) = .int .i64 bY := (hr 75 (by kernel_rfl)).trans (hI.2.2.1 (by have h1 : 1 ≤ k' := hk1; omega))
                      have hk2' : k' ≤ 1 := hk2
                      have hk1' : 1 ≤ k' := hk1
                      have hk0 := hI.2.2.1 (by omega)
                      clear hI
                      refine step_pure rfl (v := .agg #[.int .i64 i, .int .i64 bY]) (fun t ht => by cases ht; show Value.agg #[.int .i64 (i : Nat), outs 0] = _; rw [hk0]) ?_
                      clear hk0
                      go_simp
                    refine ⟨⟨rfl, fun t ht k' outs u (h : 1 < k') => by cases ht; show upd outs k' u 1 = outs 1; unfold upd; rw [if_neg (by omega)], fun k' outs W' ρ hk1 hk2 hI hc hg h_fn hr ho => ?_⟩, ?_⟩
                    · obtain rfl : k' = 1 := by have h1 : 1 ≤ k' := hk1; have h2 : k' ≤ 1 := hk2; omega
                      have r76 : ρ (.tmp 76) = .agg #[.int .i64 i, .int .i64 bY] := (hr 76 (by kernel_rfl)).trans (show Value.agg #[.int .i64 (i : Nat), outs 0] = _ by rw [hI.2.2.1 (by omega)])
                      have hbl := B_alloc (Below.refl W'.heap.size W') (.cells #[.int .i64 (i : Nat), .int .i64 bY] 78)
                      refine step_new rfl (v := .slice (some ⟨W'.heap.size, 0, none⟩) 1 1) (w' := W'.alloc (.cells #[.int .i64 (i : Nat), .int .i64 bY] 78)) ?_ ⟨fun h => by omega, fun _ => (hI.2.1 (by omega)).below hbl, fun _ => hI.2.2.1 (by omega), fun _ => ⟨_, rfl, Ob.new _ _ _⟩, fun h => by omega, fun h => by omega⟩ (fun t ht => by cases ht; rfl)
                      clear hI hbl; go_simp
                    refine ⟨⟨rfl, fun t ht k' outs u (h : 2 < k') => by cases ht; show upd outs k' u 2 = outs 2; unfold upd; rw [if_neg (by omega)], fun k' outs W' ρ hk1 hk2 hI hc hg h_fn hr ho => ?_⟩, ?_⟩
                    · obtain rfl : k' = 2 := by have h1 : 2 ≤ k' := hk1; have h2 : k' ≤ 2 := hk2; omega
                      have r70 : ρ (.tmp 70) = sv := hr 70 (by kernel_rfl)
                      have r77 : ρ (.tmp 77) = outs 1 := hr 77 (by kernel_rfl)
                      obtain ⟨qn, hq1, hq2⟩ := hI.2.2.2.1 rfl
                      replace r77 := r77.trans hq1
                      have hM3 := hI.2.1 (by omega)
                      obtain ⟨v', w2, hrun, hown, hgr⟩ := joinedS hM3.rS hq2 (by omega) hM3.sz
                      exact step_new rfl (run_append_op rfl r70 r77 hrun) ⟨fun h => by omega, fun h => by omega, fun _ => hI.2.2.1 (by omega), fun h => by omega, fun _ => hM3.addS (p := ((i : Int), bY)) hgr hown, fun h => by omega⟩ (fun t ht => by cases ht; rfl)
                    refine ⟨⟨rfl, (fun t ht => by cases ht), fun k' outs W' ρ hk1 hk2 hI hc hg h_fn hr ho => ?_⟩, trivial⟩
                    · obtain rfl : k' = 3 := by have h1 : 3 ≤ k' := hk1; have h2 : k' ≤ 3 := hk2; omega
                      have o3 := ho 3 (by kernel_rfl)
                      have r78 : ρ (.tmp 78) = outs 2 := hr 78 (by kernel_rfl)
                      have hM3 := hI.2.2.2.2.1 rfl
                      obtain ⟨qn, qc, hv⟩ := row_form hM3.rS (by simp)
                      replace r78 := r78.trans hv
                      obtain ⟨-, b1, -, -, -, -⟩ := hM3.boxes
                      obtain ⟨-, e1, -, -, -, -⟩ := hM3.free
                      have hM4 := hM3.setS (outs 2)
                      rw [hv] at hM4
                      refine step_store rfl rfl (w' := W'.setCell ⟨w.heap.size + 1 + 1, 0, none⟩ (.slice (some ⟨qn, 0, none⟩) (st ++ [((i : Int), bY)]).length qc)) ?_ ⟨fun h => by omega, fun h => by omega, fun _ => hI.2.2.1 (by omega), fun h => by omega, fun h => by omega, fun _ => ?_⟩
                      · clear hI hM3 hM4; go_simp
                      · show RM t (.slice sa N sc) w W z g t.tn L lev lv lv c tk (.slice ka tk.length kc) (.slice ka tk.length kc) can (st ++ [((i : Int), bY)]) (outs 2) (outs 2) _
                        rw [hv]; exact hM4
            replace HC2 := Lib.hid HC2
            replace hp1 := Lib.hid hp1
            replace hp2 := Lib.hid hp2
            replace hbb := Lib.hid hbb
            clear h11 h10 y0 y1 y2 hcc hgg2 hkp hkp2 hkin hta
            refine wpIn_region_held (S := fun W' => Below W1.heap.size W1 W') (by kernel_rfl) (by kernel_rfl) ((Below.refl _ W1).drew) (fun hHeld => ?_)
            refine wpAnyH_take2 (i := 0) (t := 52) (v := ?_) rfl rfl (by kernel_rfl) (by kernel_rfl) (by kernel_rfl) (fun _ _ _ h => Only.not_panic h) (Or.inl ⟨by kernel_rfl, fun W hW => ?_⟩) (by assumption) ?_
            rotate_left
            · have hW2 := hW
              obtain ⟨⟨f0, f1, f2, f3, f4, f5, f6, f7, f8, f9, f10, f11, f12⟩, f13, f14, f15, f16, f17⟩ := HS.out W hW2
              clear hW hW2
              go_simp
              try with_reducible rfl
            try simp only [Act.put, List.setIfInBounds_toArray, List.set_cons_zero, List.set_cons_succ]
            refine wpAnyH_take2 (i := 1) (t := 53) (v := ?_) rfl rfl (by kernel_rfl) (by kernel_rfl) (by kernel_rfl) (fun _ _ _ h => Only.not_panic h) (Or.inl ⟨by kernel_rfl, fun W hW => ?_⟩) (by assumption) ?_
            rotate_left
            · have hW2 := hW
              obtain ⟨⟨f0, f1, f2, f3, f4, f5, f6, f7, f8, f9, f10, f11, f12⟩, f13, f14, f15, f16, f17⟩ := HS.out W hW2
              clear hW hW2
              go_simp
              try with_reducible rfl
            try simp only [Act.put, List.setIfInBounds_toArray, List.set_cons_zero, List.set_cons_succ]
            refine wpAnyH_take2 (i := 2) (t := 54) (v := ?_) rfl rfl (by kernel_rfl) (by kernel_rfl) (by kernel_rfl) (fun _ _ _ h => Only.not_panic h) (Or.inl ⟨by kernel_rfl, fun W hW => ?_⟩) (by assumption) ?_
            rotate_left
            · have hW2 := hW
              obtain ⟨⟨f0, f1, f2, f3, f4, f5, f6, f7, f8, f9, f10, f11, f12⟩, f13, f14, f15, f16, f17⟩ := HS.out W hW2
              clear hW hW2
              go_simp
              try with_reducible rfl
            try simp only [Act.put, List.setIfInBounds_toArray, List.set_cons_zero, List.set_cons_succ]
            refine wpAnyH_take2 (i := 3) (t := 55) (v := ?_) rfl rfl (by kernel_rfl) (by kernel_rfl) (by kernel_rfl) (fun _ _ _ h => Only.not_panic h) (Or.inl ⟨by kernel_rfl, fun W hW => ?_⟩) (by assumption) ?_
            rotate_left
            · have hW2 := hW
              obtain ⟨⟨f0, f1, f2, f3, f4, f5, f6, f7, f8, f9, f10, f11, f12⟩, f13, f14, f15, f16, f17⟩ := HS.out W hW2
              clear hW hW2
              go_simp
              try with_reducible rfl
            try simp only [Act.put, List.setIfInBounds_toArray, List.set_cons_zero, List.set_cons_succ]
            refine wpAnyH_take2 (i := 4) (t := 56) (v := ?_) rfl rfl (by kernel_rfl) (by kernel_rfl) (by kernel_rfl) (fun _ _ _ h => Only.not_panic h) (Or.inl ⟨by kernel_rfl, fun W hW => ?_⟩) (by assumption) ?_
            rotate_left
            · have hW2 := hW
              obtain ⟨⟨f0, f1, f2, f3, f4, f5, f6, f7, f8, f9, f10, f11, f12⟩, f13, f14, f15, f16, f17⟩ := HS.out W hW2
              clear hW hW2
              go_simp
              try with_reducible rfl
            try simp only [Act.put, List.setIfInBounds_toArray, List.set_cons_zero, List.set_cons_succ]
            refine wpAnyH_take2 (i := 5) (t := 57) (v := ?_) rfl rfl (by kernel_rfl) (by kernel_rfl) (by kernel_rfl) (fun _ _ _ h => Only.not_panic h) (Or.inl ⟨by kernel_rfl, fun W hW => ?_⟩) (by assumption) ?_
            rotate_left
            · have hW2 := hW
              obtain ⟨⟨f0, f1, f2, f3, f4, f5, f6, f7, f8, f9, f10, f11, f12⟩, f13, f14, f15, f16, f17⟩ := HS.out W hW2
              clear hW hW2
              go_simp
              try with_reducible rfl
            try simp only [Act.put, List.setIfInBounds_toArray, List.set_cons_zero, List.set_cons_succ]
            refine wpAnyH_take2 (i := 6) (t := 58) (v := ?_) rfl rfl (by kernel_rfl) (by kernel_rfl) (by kernel_rfl) (fun _ _ _ h => Only.not_panic h) (Or.inl ⟨by kernel_rfl, fun W hW => ?_⟩) (by assumption) ?_
            rotate_left
            · have hW2 := hW
              obtain ⟨⟨f0, f1, f2, f3, f4, f5, f6, f7, f8, f9, f10, f11, f12⟩, f13, f14, f15, f16, f17⟩ := HS.out W hW2
              clear hW hW2
              go_simp
              try with_reducible rfl
            try simp only [Act.put, List.setIfInBounds_toArray, List.set_cons_zero, List.set_cons_succ]
            refine wpAnyH_take2 (i := 7) (t := 59) (v := ?_) rfl rfl (by kernel_rfl) (by kernel_rfl) (by kernel_rfl) (fun _ _ _ h => Only.not_panic h) (Or.inl ⟨by kernel_rfl, fun W hW => ?_⟩) (by assumption) ?_
            rotate_left
            · have hW2 := hW
              obtain ⟨⟨f0, f1, f2, f3, f4, f5, f6, f7, f8, f9, f10, f11, f12⟩, f13, f14, f15, f16, f17⟩ := HS.out W hW2
              clear hW hW2
              go_simp
              try with_reducible rfl
            try simp only [Act.put, List.setIfInBounds_toArray, List.set_cons_zero, List.set_cons_succ]
            refine wpAnyH_ready (rs := [8, 13]) (by kernel_rfl) (by simp) ?_
            refine AllReadyH.cons rfl (fun K hK => ?_) ?_
            · go_simp
              refine (HKp.out _).mono ?_
              rintro e w8 ⟨rfl, hb8⟩
              try simp only []
              refine hK.out _ _ ?_ (fun hHeld => ?_)
              · exact B_trans hHeld hb8
              clear hK K
              try simp only [Act.put, List.setIfInBounds_toArray, List.set_cons_zero, List.set_cons_succ]
              refine wpAnyH_ready (rs := [9, 13]) (by kernel_rfl) (by simp) ?_
              refine AllReadyH.cons rfl (fun K hK => ?_) ?_
              · go_simp
                refine (HCm.out _).mono ?_
                rintro e w9 ⟨rfl, hb9⟩
                try simp only []
                refine hK.out _ _ ?_ (fun hHeld => ?_)
                · exact B_trans hHeld hb9
                clear hK K
                try simp only [Act.put, List.setIfInBounds_toArray, List.set_cons_zero, List.set_cons_succ]
                refine wpAnyH_take2 (i := 10) (t := 51) (v := ?_) rfl rfl (by kernel_rfl) (by kernel_rfl) (by kernel_rfl) (fun _ _ _ h => Only.not_panic h) (Or.inl ⟨by kernel_rfl, fun W hW => ?_⟩) (by assumption) ?_
                rotate_left
                · have hW2 := hW
                  obtain ⟨⟨f0, f1, f2, f3, f4, f5, f6, f7, f8, f9, f10, f11, f12⟩, f13, f14, f15, f16, f17⟩ := HS.out W hW2
                  clear hW hW2
                  go_simp
                  try with_reducible rfl
                try simp only [Act.put, List.setIfInBounds_toArray, List.set_cons_zero, List.set_cons_succ]
                refine wpAnyH_take2 (i := 11) (t := 62) (v := ?_) rfl rfl (by kernel_rfl) (by kernel_rfl) (by kernel_rfl) (fun _ _ _ h => Only.not_panic h) (Or.inl ⟨by kernel_rfl, fun W hW => ?_⟩) (by assumption) ?_
                rotate_left
                · have hW2 := hW
                  obtain ⟨⟨f0, f1, f2, f3, f4, f5, f6, f7, f8, f9, f10, f11, f12⟩, f13, f14, f15, f16, f17⟩ := HS.out W hW2
                  clear hW hW2
                  go_simp
                  try with_reducible rfl
                try simp only [Act.put, List.setIfInBounds_toArray, List.set_cons_zero, List.set_cons_succ]
                refine wpAnyH_take2 (i := 12) (t := 63) (v := ?_) rfl rfl (by kernel_rfl) (by kernel_rfl) (by kernel_rfl) (fun _ _ _ h => Only.not_panic h) (Or.inl ⟨by kernel_rfl, fun W hW => ?_⟩) (by assumption) ?_
                rotate_left
                · have hW2 := hW
                  obtain ⟨⟨f0, f1, f2, f3, f4, f5, f6, f7, f8, f9, f10, f11, f12⟩, f13, f14, f15, f16, f17⟩ := HS.out W hW2
                  clear hW hW2
                  go_simp
                  try with_reducible rfl
                try simp only [Act.put, List.setIfInBounds_toArray, List.set_cons_zero, List.set_cons_succ]
                refine wpAnyH_ready (rs := [13]) (by kernel_rfl) (by simp) ?_
                refine AllReadyH.cons rfl (fun K hK => ?_) ?_
                · go_simp
                  have hpre := hHeld
                  have o9 := Lib.hid (Ob.new (w9) #[.int .i64 0, .int .i64 0] 28)
                  have hb9 := hHeld.size
                  refine hK.out _ _ ?_ (fun hHeld => ?_)
                  · exact B_alloc hHeld _
                  clear hK K
                  try simp only [Act.put, List.setIfInBounds_toArray, List.set_cons_zero, List.set_cons_succ]
                  refine wpAnyH_ready (rs := [14]) (by kernel_rfl) (by simp) ?_
                  refine AllReadyH.cons rfl (fun K hK => ?_) ?_
                  · have v0 := o9.out.cell 0
                    have v1 := o9.out.cell 1
                    have g0 := o9.out.frozen 0
                    have g1 := o9.out.frozen 1
                    simp only [List.getElem?_toArray, List.getElem?_cons_zero, List.getElem?_cons_succ] at v0 v1
                    go_simp
                    refine hK.out _ _ ?_ (fun hHeld => ?_)
                    · first | exact B_alloc hpre _ | exact (hHeld.setCell (by first | omega | (simp only; omega) | (simp; omega)) _).setCell (by first | omega | (simp only; omega) | (simp; omega)) _
                    clear hK K
                    try simp only [Act.put, List.setIfInBounds_toArray, List.set_cons_zero, List.set_cons_succ]
                    refine wpAnyH_take2 (i := 15) (t := 10) (v := ?_) rfl rfl (by kernel_rfl) (by kernel_rfl) (by kernel_rfl) (fun _ _ _ h => Only.not_panic h) (Or.inl ⟨by kernel_rfl, fun W hW => ?_⟩) (by assumption) ?_
                    rotate_left
                    · have hW2 := hW
                      obtain ⟨⟨f0, f1, f2, f3, f4, f5, f6, f7, f8, f9, f10, f11, f12⟩, f13, f14, f15, f16, f17⟩ := HS.out W hW2
                      clear hW hW2
                      go_simp
                      try with_reducible rfl
                    try simp only [Act.put, List.setIfInBounds_toArray, List.set_cons_zero, List.set_cons_succ]
                    refine wpAnyH_done (by kernel_rfl) (Only.mk ?_) _
                    first | exact HC2.out _ _ (by first | omega | exact Nat.le_refl _) (Ob.new _ _ _) hHeld | exact HC2.out _ _ (by first | omega | exact Nat.le_refl _) ((o9.out.set 0 _).set 1 _) hHeld
                  exact AllReadyH.nil
                exact AllReadyH.nil
              refine AllReadyH.cons rfl (fun K hK => ?_) ?_
              · go_simp
                have hpre := hHeld
                have o9 := Lib.hid (Ob.new (w8) #[.int .i64 0, .int .i64 0] 28)
                have hb9 := hHeld.size
                refine hK.out _ _ ?_ (fun hHeld => ?_)
                · exact B_alloc hHeld _
                clear hK K
                try simp only [Act.put, List.setIfInBounds_toArray, List.set_cons_zero, List.set_cons_succ]
                refine wpAnyH_ready (rs := [9]) (by kernel_rfl) (by simp) ?_
                refine AllReadyH.cons rfl (fun K hK => ?_) ?_
                · go_simp
                  refine (HCm.out _).mono ?_
                  rintro e w9 ⟨rfl, hb9⟩
                  try simp only []
                  replace o9 := Lib.hid (o9.out.below hb9)
                  refine hK.out _ _ ?_ (fun hHeld => ?_)
                  · exact B_trans hHeld hb9
                  clear hK K
                  try simp only [Act.put, List.setIfInBounds_toArray, List.set_cons_zero, List.set_cons_succ]
                  refine wpAnyH_take2 (i := 10) (t := 51) (v := ?_) rfl rfl (by kernel_rfl) (by kernel_rfl) (by kernel_rfl) (fun _ _ _ h => Only.not_panic h) (Or.inl ⟨by kernel_rfl, fun W hW => ?_⟩) (by assumption) ?_
                  rotate_left
                  · have hW2 := hW
                    obtain ⟨⟨f0, f1, f2, f3, f4, f5, f6, f7, f8, f9, f10, f11, f12⟩, f13, f14, f15, f16, f17⟩ := HS.out W hW2
                    clear hW hW2
                    go_simp
                    try with_reducible rfl
                  try simp only [Act.put, List.setIfInBounds_toArray, List.set_cons_zero, List.set_cons_succ]
                  refine wpAnyH_take2 (i := 11) (t := 62) (v := ?_) rfl rfl (by kernel_rfl) (by kernel_rfl) (by kernel_rfl) (fun _ _ _ h => Only.not_panic h) (Or.inl ⟨by kernel_rfl, fun W hW => ?_⟩) (by assumption) ?_
                  rotate_left
                  · have hW2 := hW
                    obtain ⟨⟨f0, f1, f2, f3, f4, f5, f6, f7, f8, f9, f10, f11, f12⟩, f13, f14, f15, f16, f17⟩ := HS.out W hW2
                    clear hW hW2
                    go_simp
                    try with_reducible rfl
                  try simp only [Act.put, List.setIfInBounds_toArray, List.set_cons_zero, List.set_cons_succ]
                  refine wpAnyH_take2 (i := 12) (t := 63) (v := ?_) rfl rfl (by kernel_rfl) (by kernel_rfl) (by kernel_rfl) (fun _ _ _ h => Only.not_panic h) (Or.inl ⟨by kernel_rfl, fun W hW => ?_⟩) (by assumption) ?_
                  rotate_left
                  · have hW2 := hW
                    obtain ⟨⟨f0, f1, f2, f3, f4, f5, f6, f7, f8, f9, f10, f11, f12⟩, f13, f14, f15, f16, f17⟩ := HS.out W hW2
                    clear hW hW2
                    go_simp
                    try with_reducible rfl
                  try simp only [Act.put, List.setIfInBounds_toArray, List.set_cons_zero, List.set_cons_succ]
                  refine wpAnyH_ready (rs := [14]) (by kernel_rfl) (by simp) ?_
                  refine AllReadyH.cons rfl (fun K hK => ?_) ?_
                  · have v0 := o9.out.cell 0
                    have v1 := o9.out.cell 1
                    have g0 := o9.out.frozen 0
                    have g1 := o9.out.frozen 1
                    simp only [List.getElem?_toArray, List.getElem?_cons_zero, List.getElem?_cons_succ] at v0 v1
                    go_simp
                    refine hK.out _ _ ?_ (fun hHeld => ?_)
                    · first | exact B_alloc hpre _ | exact (hHeld.setCell (by first | omega | (simp only; omega) | (simp; omega)) _).setCell (by first | omega | (simp only; omega) | (simp; omega)) _
                    clear hK K
                    try simp only [Act.put, List.setIfInBounds_toArray, List.set_cons_zero, List.set_cons_succ]
                    refine wpAnyH_take2 (i := 15) (t := 10) (v := ?_) rfl rfl (by kernel_rfl) (by kernel_rfl) (by kernel_rfl) (fun _ _ _ h => Only.not_panic h) (Or.inl ⟨by kernel_rfl, fun W hW => ?_⟩) (by assumption) ?_
                    rotate_left
                    · have hW2 := hW
                      obtain ⟨⟨f0, f1, f2, f3, f4, f5, f6, f7, f8, f9, f10, f11, f12⟩, f13, f14, f15, f16, f17⟩ := HS.out W hW2
                      clear hW hW2
                      go_simp
                      try with_reducible rfl
                    try simp only [Act.put, List.setIfInBounds_toArray, List.set_cons_zero, List.set_cons_succ]
                    refine wpAnyH_done (by kernel_rfl) (Only.mk ?_) _
                    first | exact HC2.out _ _ (by first | omega | exact Nat.le_refl _) (Ob.new _ _ _) hHeld | exact HC2.out _ _ (by first | omega | exact Nat.le_refl _) ((o9.out.set 0 _).set 1 _) hHeld
                  exact AllReadyH.nil
                exact AllReadyH.nil
              exact AllReadyH.nil
            refine AllReadyH.cons rfl (fun K hK => ?_) ?_
            · go_simp
              have o9 := Lib.hid (show Ob (W1.drew.alloc (.cells #[.int .i64 0, .int .i64 0] 28)) W1.heap.size 28 #[.int .i64 0, .int .i64 0] from Ob.new _ _ _)
              have hpre := hHeld
              refine hK.out _ _ ?_ (fun hHeld => ?_)
              · exact B_alloc hHeld _
              clear hK K
              try simp only [Act.put, List.setIfInBounds_toArray, List.set_cons_zero, List.set_cons_succ]
              refine wpAnyH_ready (rs := [8]) (by kernel_rfl) (by simp) ?_
              refine AllReadyH.cons rfl (fun K hK => ?_) ?_
              · go_simp
                refine (HKp.out _).mono ?_
                rintro e w8 ⟨rfl, hb8⟩
                try simp only []
                replace o9 := Lib.hid (o9.out.below hb8)
                refine hK.out _ _ ?_ (fun hHeld => ?_)
                · exact B_trans hHeld hb8
                clear hK K
                try simp only [Act.put, List.setIfInBounds_toArray, List.set_cons_zero, List.set_cons_succ]
                refine wpAnyH_ready (rs := [9]) (by kernel_rfl) (by simp) ?_
                refine AllReadyH.cons rfl (fun K hK => ?_) ?_
                · go_simp
                  refine (HCm.out _).mono ?_
                  rintro e w9 ⟨rfl, hb9⟩
                  try simp only []
                  replace o9 := Lib.hid (o9.out.below hb9)
                  refine hK.out _ _ ?_ (fun hHeld => ?_)
                  · exact B_trans hHeld hb9
                  clear hK K
                  try simp only [Act.put, List.setIfInBounds_toArray, List.set_cons_zero, List.set_cons_succ]
                  refine wpAnyH_take2 (i := 10) (t := 51) (v := ?_) rfl rfl (by kernel_rfl) (by kernel_rfl) (by kernel_rfl) (fun _ _ _ h => Only.not_panic h) (Or.inl ⟨by kernel_rfl, fun W hW => ?_⟩) (by assumption) ?_
                  rotate_left
                  · have hW2 := hW
                    obtain ⟨⟨f0, f1, f2, f3, f4, f5, f6, f7, f8, f9, f10, f11, f12⟩, f13, f14, f15, f16, f17⟩ := HS.out W hW2
                    clear hW hW2
                    go_simp
                    try with_reducible rfl
                  try simp only [Act.put, List.setIfInBounds_toArray, List.set_cons_zero, List.set_cons_succ]
                  refine wpAnyH_take2 (i := 11) (t := 62) (v := ?_) rfl rfl (by kernel_rfl) (by kernel_rfl) (by kernel_rfl) (fun _ _ _ h => Only.not_panic h) (Or.inl ⟨by kernel_rfl, fun W hW => ?_⟩) (by assumption) ?_
                  rotate_left
                  · have hW2 := hW
                    obtain ⟨⟨f0, f1, f2, f3, f4, f5, f6, f7, f8, f9, f10, f11, f12⟩, f13, f14, f15, f16, f17⟩ := HS.out W hW2
                    clear hW hW2
                    go_simp
                    try with_reducible rfl
                  try simp only [Act.put, List.setIfInBounds_toArray, List.set_cons_zero, List.set_cons_succ]
                  refine wpAnyH_take2 (i := 12) (t := 63) (v := ?_) rfl rfl (by kernel_rfl) (by kernel_rfl) (by kernel_rfl) (fun _ _ _ h => Only.not_panic h) (Or.inl ⟨by kernel_rfl, fun W hW => ?_⟩) (by assumption) ?_
                  rotate_left
                  · have hW2 := hW
                    obtain ⟨⟨f0, f1, f2, f3, f4, f5, f6, f7, f8, f9, f10, f11, f12⟩, f13, f14, f15, f16, f17⟩ := HS.out W hW2
                    clear hW hW2
                    go_simp
                    try with_reducible rfl
                  try simp only [Act.put, List.setIfInBounds_toArray, List.set_cons_zero, List.set_cons_succ]
                  refine wpAnyH_ready (rs := [14]) (by kernel_rfl) (by simp) ?_
                  refine AllReadyH.cons rfl (fun K hK => ?_) ?_
                  · have v0 := o9.out.cell 0
                    have v1 := o9.out.cell 1
                    have g0 := o9.out.frozen 0
                    have g1 := o9.out.frozen 1
                    simp only [List.getElem?_toArray, List.getElem?_cons_zero, List.getElem?_cons_succ] at v0 v1
                    go_simp
                    refine hK.out _ _ ?_ (fun hHeld => ?_)
                    · first | exact B_alloc hpre _ | exact (hHeld.setCell (by first | omega | (simp only; omega) | (simp; omega)) _).setCell (by first | omega | (simp only; omega) | (simp; omega)) _
                    clear hK K
                    try simp only [Act.put, List.setIfInBounds_toArray, List.set_cons_zero, List.set_cons_succ]
                    refine wpAnyH_take2 (i := 15) (t := 10) (v := ?_) rfl rfl (by kernel_rfl) (by kernel_rfl) (by kernel_rfl) (fun _ _ _ h => Only.not_panic h) (Or.inl ⟨by kernel_rfl, fun W hW => ?_⟩) (by assumption) ?_
                    rotate_left
                    · have hW2 := hW
                      obtain ⟨⟨f0, f1, f2, f3, f4, f5, f6, f7, f8, f9, f10, f11, f12⟩, f13, f14, f15, f16, f17⟩ := HS.out W hW2
                      clear hW hW2
                      go_simp
                      try with_reducible rfl
                    try simp only [Act.put, List.setIfInBounds_toArray, List.set_cons_zero, List.set_cons_succ]
                    refine wpAnyH_done (by kernel_rfl) (Only.mk ?_) _
                    first | exact HC2.out _ _ (by first | omega | exact Nat.le_refl _) (Ob.new _ _ _) hHeld | exact HC2.out _ _ (by first | omega | exact Nat.le_refl _) ((o9.out.set 0 _).set 1 _) hHeld
                  exact AllReadyH.nil
                exact AllReadyH.nil
              exact AllReadyH.nil
            exact AllReadyH.nil
        clear hA hB
        replace HB := Lib.hid HB
        rcases Nat.lt_or_ge c t.tn with hcn | hcn
        · have hi' := getD_mem_lt hLlt (j := c) (by omega)
          have hmi := hmo _ hi'
          obtain ⟨d, hd⟩ : ∃ d, t.tn - c = d := ⟨_, rfl⟩
          have hd0 : (0 : Int) < d := by omega
          have hd1 : 0 < d := by omega
          have HMo := Lib.hid (fun (W' : World) (hh : Below wr.heap.size wr W') => morning_any t (.slice sa N sc) #[.slice t.r.ha t.r.hn t.r.hc, .slice t.r.wa t.r.wn t.r.wc, .int .i64 t.r.own, .int .i64 t.r.feed, .int .i64 t.r.g0, .int .i64 t.r.g1, .int .i64 t.r.g2, .int .i64 t.r.lost, .int .i64 t.first, .slice sa N sc, .int .i64 t.lo, .int .i64 t.hi, .slice t.ta t.tn t.tc] ts (L.getD c 0) W' (hT.below (B_trans hM.out.bw hh)) hi' (by omega) rfl (by omega) (by omega))
          rw [hmi.1] at HMo
          have HS := Lib.hid (fun (W' : World) (hh : Below wr.heap.size wr W') => And.intro (hM.out.below hh).cells (And.intro (hM.out.below hh).boxes ((hM.out.below hh).head (by omega))))
          rw [hd, show min c (t.tn - 1) = c by omega] at HS
          generalize L.getD c 0 = i at HMo HS HB hmi hi'
          generalize mor i = mi at HMo HB hmi
          clear hmi hi' hd
          refine wpIn_region_held (S := fun W' => Below wr.heap.size wr W') (by kernel_rfl) (by kernel_rfl) ((Below.refl _ wr).drew) (fun hHeld => ?_)
          refine wpAnyH_take2 (i := 0) (t := 34) (v := ?_) rfl rfl (by kernel_rfl) (by kernel_rfl) (by kernel_rfl) (fun _ _ _ h => Only.not_panic h) (Or.inl ⟨by kernel_rfl, fun W hW => ?_⟩) (by assumption) ?_
          rotate_left
          · have hW2 := hW
            obtain ⟨⟨f0, f1, f2, f3, f4, f5, f6, f7, f8, f9, f10, f11, f12⟩, ⟨-, -, g2, g3, g4, g5⟩, f13⟩ := HS.out W hW2
            clear hW hW2
            go_simp
            try with_reducible rfl
          try simp only [Act.put, List.setIfInBounds_toArray, List.set_cons_zero, List.set_cons_succ]
          refine wpAnyH_take2 (i := 1) (t := 35) (v := ?_) rfl rfl (by kernel_rfl) (by kernel_rfl) (by kernel_rfl) (fun _ _ _ h => Only.not_panic h) (Or.inl ⟨by kernel_rfl, fun W hW => ?_⟩) (by assumption) ?_
          rotate_left
          · have hW2 := hW
            obtain ⟨⟨f0, f1, f2, f3, f4, f5, f6, f7, f8, f9, f10, f11, f12⟩, ⟨-, -, g2, g3, g4, g5⟩, f13⟩ := HS.out W hW2
            clear hW hW2
            go_simp
            try with_reducible rfl
          try simp only [Act.put, List.setIfInBounds_toArray, List.set_cons_zero, List.set_cons_succ]
          refine wpAnyH_take2 (i := 2) (t := 36) (v := .bool true) rfl rfl (by kernel_rfl) (by kernel_rfl) (by kernel_rfl) (fun _ _ _ h => Only.not_panic h) (Or.inl ⟨by kernel_rfl, fun W hW => ?_⟩) (by assumption) ?_
          · have hW2 := hW
            obtain ⟨⟨f0, f1, f2, f3, f4, f5, f6, f7, f8, f9, f10, f11, f12⟩, ⟨-, -, g2, g3, g4, g5⟩, f13⟩ := HS.out W hW2
            clear hW hW2
            go_simp
            try with_reducible rfl
          try simp only [Act.put, List.setIfInBounds_toArray, List.set_cons_zero, List.set_cons_succ]
          refine wpAnyH_take2 (i := 3) (t := 37) (v := .bool true) rfl rfl (by kernel_rfl) (by kernel_rfl) (by kernel_rfl) (fun _ _ _ h => Only.not_panic h) (Or.inl ⟨by kernel_rfl, fun W hW => ?_⟩) (by assumption) ?_
          · have hW2 := hW
            obtain ⟨⟨f0, f1, f2, f3, f4, f5, f6, f7, f8, f9, f10, f11, f12⟩, ⟨-, -, g2, g3, g4, g5⟩, f13⟩ := HS.out W hW2
            clear hW hW2
            go_simp
            try with_reducible rfl
          try simp only [Act.put, List.setIfInBounds_toArray, List.set_cons_zero, List.set_cons_succ]
          refine wpAnyH_take2 (i := 4) (t := 38) (v := ?_) rfl rfl (by kernel_rfl) (by kernel_rfl) (by kernel_rfl) (fun _ _ _ h => Only.not_panic h) (Or.inl ⟨by kernel_rfl, fun W hW => ?_⟩) (by assumption) ?_
          rotate_left
          · have hW2 := hW
            obtain ⟨⟨f0, f1, f2, f3, f4, f5, f6, f7, f8, f9, f10, f11, f12⟩, ⟨-, -, g2, g3, g4, g5⟩, f13⟩ := HS.out W hW2
            clear hW hW2
            go_simp
            try with_reducible rfl
          try simp only [Act.put, List.setIfInBounds_toArray, List.set_cons_zero, List.set_cons_succ]
          refine wpAnyH_take2 (i := 5) (t := 39) (v := ?_) rfl rfl (by kernel_rfl) (by kernel_rfl) (by kernel_rfl) (fun _ _ _ h => Only.not_panic h) (Or.inl ⟨by kernel_rfl, fun W hW => ?_⟩) (by assumption) ?_
          rotate_left
          · have hW2 := hW
            obtain ⟨⟨f0, f1, f2, f3, f4, f5, f6, f7, f8, f9, f10, f11, f12⟩, ⟨-, -, g2, g3, g4, g5⟩, f13⟩ := HS.out W hW2
            clear hW hW2
            go_simp
            try with_reducible rfl
          try simp only [Act.put, List.setIfInBounds_toArray, List.set_cons_zero, List.set_cons_succ]
          refine wpAnyH_take2 (i := 6) (t := 40) (v := ?_) rfl rfl (by kernel_rfl) (by kernel_rfl) (by kernel_rfl) (fun _ _ _ h => Only.not_panic h) (Or.inl ⟨by kernel_rfl, fun W hW => ?_⟩) (by assumption) ?_
          rotate_left
          · have hW2 := hW
            obtain ⟨⟨f0, f1, f2, f3, f4, f5, f6, f7, f8, f9, f10, f11, f12⟩, ⟨-, -, g2, g3, g4, g5⟩, f13⟩ := HS.out W hW2
            clear hW hW2
            go_simp
            try with_reducible rfl
          try simp only [Act.put, List.setIfInBounds_toArray, List.set_cons_zero, List.set_cons_succ]
          refine wpAnyH_take2 (i := 7) (t := 41) (v := ?_) rfl rfl (by kernel_rfl) (by kernel_rfl) (by kernel_rfl) (fun _ _ _ h => Only.not_panic h) (Or.inl ⟨by kernel_rfl, fun W hW => ?_⟩) (by assumption) ?_
          rotate_left
          · have hW2 := hW
            obtain ⟨⟨f0, f1, f2, f3, f4, f5, f6, f7, f8, f9, f10, f11, f12⟩, ⟨-, -, g2, g3, g4, g5⟩, f13⟩ := HS.out W hW2
            clear hW hW2
            go_simp
            try with_reducible rfl
          try simp only [Act.put, List.setIfInBounds_toArray, List.set_cons_zero, List.set_cons_succ]
          refine wpAnyH_take2 (i := 9) (t := 43) (v := ?_) rfl rfl (by kernel_rfl) (by kernel_rfl) (by kernel_rfl) (fun _ _ _ h => Only.not_panic h) (Or.inl ⟨by kernel_rfl, fun W hW => ?_⟩) (by assumption) ?_
          rotate_left
          · have hW2 := hW
            obtain ⟨⟨f0, f1, f2, f3, f4, f5, f6, f7, f8, f9, f10, f11, f12⟩, ⟨-, -, g2, g3, g4, g5⟩, f13⟩ := HS.out W hW2
            clear hW hW2
            go_simp
            try with_reducible rfl
          try simp only [Act.put, List.setIfInBounds_toArray, List.set_cons_zero, List.set_cons_succ]
          refine wpAnyH_ready (rs := [8]) (by kernel_rfl) (by simp) ?_
          refine AllReadyH.cons_want rfl (by kernel_rfl) (fun K hK => ?_) ?_
          · go_simp
            refine (HMo.out _ hHeld).mono ?_
            rintro e w8 ⟨rfl, hb8⟩
            try simp only []
            refine hK.out _ _ ?_ (fun hHeld => ?_)
            · exact B_trans hHeld hb8
            clear hK K
            try simp only [Act.put, List.setIfInBounds_toArray, List.set_cons_zero, List.set_cons_succ]
            refine wpAnyH_take2 (i := 10) (t := 44) (v := ?_) rfl rfl (by kernel_rfl) (by kernel_rfl) (by kernel_rfl) (fun _ _ _ h => Only.not_panic h) (Or.inl ⟨by kernel_rfl, fun W hW => ?_⟩) (by assumption) ?_
            rotate_left
            · have hW2 := hW
              obtain ⟨⟨f0, f1, f2, f3, f4, f5, f6, f7, f8, f9, f10, f11, f12⟩, ⟨-, -, g2, g3, g4, g5⟩, f13⟩ := HS.out W hW2
              clear hW hW2
              go_simp
              try with_reducible rfl
            try simp only [Act.put, List.setIfInBounds_toArray, List.set_cons_zero, List.set_cons_succ]
            refine wpAnyH_take2 (i := 11) (t := 45) (v := ?_) rfl rfl (by kernel_rfl) (by kernel_rfl) (by kernel_rfl) (fun _ _ _ h => Only.not_panic h) (Or.inl ⟨by kernel_rfl, fun W hW => ?_⟩) (by assumption) ?_
            rotate_left
            · have hW2 := hW
              obtain ⟨⟨f0, f1, f2, f3, f4, f5, f6, f7, f8, f9, f10, f11, f12⟩, ⟨-, -, g2, g3, g4, g5⟩, f13⟩ := HS.out W hW2
              clear hW hW2
              go_simp
              try with_reducible rfl
            try simp only [Act.put, List.setIfInBounds_toArray, List.set_cons_zero, List.set_cons_succ]
            refine wpAnyH_done (by kernel_rfl) (Only.mk ?_) _
            exact HB.out _ _ _ _ _ _ _ _ _ _ _ _ _ (hM.out.below hHeld) (fun hb => ⟨hcn, by simp at hb; omega⟩) (fun hb => Or.inr (by simp at hb; omega))
          exact AllReadyH.nil
        · have hd : t.tn - c = 0 := by omega
          have HS := Lib.hid (fun (W' : World) (hh : Below wr.heap.size wr W') => And.intro (hM.out.below hh).cells (hM.out.below hh).boxes)
          rw [hd] at HS
          generalize min c (t.tn - 1) = cm at HS
          clear hd
          refine wpIn_region_held (S := fun W' => Below wr.heap.size wr W') (by kernel_rfl) (by kernel_rfl) ((Below.refl _ wr).drew) (fun hHeld => ?_)
          refine wpAnyH_take2 (i := 0) (t := 34) (v := ?_) rfl rfl (by kernel_rfl) (by kernel_rfl) (by kernel_rfl) (fun _ _ _ h => Only.not_panic h) (Or.inl ⟨by kernel_rfl, fun W hW => ?_⟩) (by assumption) ?_
          rotate_left
          · have hW2 := hW
            obtain ⟨⟨f0, f1, f2, f3, f4, f5, f6, f7, f8, f9, f10, f11, f12⟩, ⟨-, -, g2, g3, g4, g5⟩⟩ := HS.out W hW2
            clear hW hW2
            go_simp
            try with_reducible rfl
          try simp only [Act.put, List.setIfInBounds_toArray, List.set_cons_zero, List.set_cons_succ]
          refine wpAnyH_take2 (i := 1) (t := 35) (v := ?_) rfl rfl (by kernel_rfl) (by kernel_rfl) (by kernel_rfl) (fun _ _ _ h => Only.not_panic h) (Or.inl ⟨by kernel_rfl, fun W hW => ?_⟩) (by assumption) ?_
          rotate_left
          · have hW2 := hW
            obtain ⟨⟨f0, f1, f2, f3, f4, f5, f6, f7, f8, f9, f10, f11, f12⟩, ⟨-, -, g2, g3, g4, g5⟩⟩ := HS.out W hW2
            clear hW hW2
            go_simp
            try with_reducible rfl
          try simp only [Act.put, List.setIfInBounds_toArray, List.set_cons_zero, List.set_cons_succ]
          refine wpAnyH_take2 (i := 2) (t := 36) (v := .bool false) rfl rfl (by kernel_rfl) (by kernel_rfl) (by kernel_rfl) (fun _ _ _ h => Only.not_panic h) (Or.inl ⟨by kernel_rfl, fun W hW => ?_⟩) (by assumption) ?_
          · have hW2 := hW
            obtain ⟨⟨f0, f1, f2, f3, f4, f5, f6, f7, f8, f9, f10, f11, f12⟩, ⟨-, -, g2, g3, g4, g5⟩⟩ := HS.out W hW2
            clear hW hW2
            go_simp
            try with_reducible rfl
          try simp only [Act.put, List.setIfInBounds_toArray, List.set_cons_zero, List.set_cons_succ]
          refine wpAnyH_take2 (i := 3) (t := 37) (v := .bool false) rfl rfl (by kernel_rfl) (by kernel_rfl) (by kernel_rfl) (fun _ _ _ h => Only.not_panic h) (Or.inl ⟨by kernel_rfl, fun W hW => ?_⟩) (by assumption) ?_
          · have hW2 := hW
            obtain ⟨⟨f0, f1, f2, f3, f4, f5, f6, f7, f8, f9, f10, f11, f12⟩, ⟨-, -, g2, g3, g4, g5⟩⟩ := HS.out W hW2
            clear hW hW2
            go_simp
            try with_reducible rfl
          try simp only [Act.put, List.setIfInBounds_toArray, List.set_cons_zero, List.set_cons_succ]
          refine wpAnyH_skip (i := 4) (t := 38) rfl rfl (by kernel_rfl) (by kernel_rfl) (by kernel_rfl) (fun _ _ _ h => Only.not_panic h) (by kernel_rfl) (by assumption) ?_
          try simp only [Act.put, List.setIfInBounds_toArray, List.set_cons_zero, List.set_cons_succ]
          refine wpAnyH_skip (i := 5) (t := 39) rfl rfl (by kernel_rfl) (by kernel_rfl) (by kernel_rfl) (fun _ _ _ h => Only.not_panic h) (by kernel_rfl) (by assumption) ?_
          try simp only [Act.put, List.setIfInBounds_toArray, List.set_cons_zero, List.set_cons_succ]
          refine wpAnyH_skip (i := 6) (t := 40) rfl rfl (by kernel_rfl) (by kernel_rfl) (by kernel_rfl) (fun _ _ _ h => Only.not_panic h) (by kernel_rfl) (by assumption) ?_
          try simp only [Act.put, List.setIfInBounds_toArray, List.set_cons_zero, List.set_cons_succ]
          refine wpAnyH_skip (i := 7) (t := 41) rfl rfl (by kernel_rfl) (by kernel_rfl) (by kernel_rfl) (fun _ _ _ h => Only.not_panic h) (by kernel_rfl) (by assumption) ?_
          try simp only [Act.put, List.setIfInBounds_toArray, List.set_cons_zero, List.set_cons_succ]
          refine wpAnyH_skip (i := 8) (t := 42) rfl rfl (by kernel_rfl) (by kernel_rfl) (by kernel_rfl) (fun _ _ _ h => Only.not_panic h) (by kernel_rfl) (by assumption) ?_
          try simp only [Act.put, List.setIfInBounds_toArray, List.set_cons_zero, List.set_cons_succ]
          refine wpAnyH_skip (i := 9) (t := 43) rfl rfl (by kernel_rfl) (by kernel_rfl) (by kernel_rfl) (fun _ _ _ h => Only.not_panic h) (by kernel_rfl) (by assumption) ?_
          try simp only [Act.put, List.setIfInBounds_toArray, List.set_cons_zero, List.set_cons_succ]
          refine wpAnyH_skip (i := 10) (t := 44) rfl rfl (by kernel_rfl) (by kernel_rfl) (by kernel_rfl) (fun _ _ _ h => Only.not_panic h) (by kernel_rfl) (by assumption) ?_
          try simp only [Act.put, List.setIfInBounds_toArray, List.set_cons_zero, List.set_cons_succ]
          refine wpAnyH_take2 (i := 11) (t := 45) (v := ?_) rfl rfl (by kernel_rfl) (by kernel_rfl) (by kernel_rfl) (fun _ _ _ h => Only.not_panic h) (Or.inl ⟨by kernel_rfl, fun W hW => ?_⟩) (by assumption) ?_
          rotate_left
          · have hW2 := hW
            obtain ⟨⟨f0, f1, f2, f3, f4, f5, f6, f7, f8, f9, f10, f11, f12⟩, ⟨-, -, g2, g3, g4, g5⟩⟩ := HS.out W hW2
            clear hW hW2
            go_simp
            try with_reducible rfl
          try simp only [Act.put, List.setIfInBounds_toArray, List.set_cons_zero, List.set_cons_succ]
          refine wpAnyH_done (by kernel_rfl) (Only.mk ?_) _
          exact HB.out _ _ _ _ _ _ _ _ _ _ _ _ _ (hM.out.below hHeld) (fun hb => by cases hb) (fun _ => Or.inl hcn)

    clear haR
    replace HC := Lib.hid HC
    replace hlp := Lib.hid hlp
    rcases Nat.eq_zero_or_pos m with hm0 | hm0
    · have hn0 : ¬ (0 : Int) < m := by omega
      have ec : canS t.r ss m can = can := by unfold canS; rw [if_neg (by omega)]
      rw [ec] at HC
      clear ec hm0
      gi_wp2_with fail
      exact HC.out _ _ _ _ _ _ _ _ _ _ _ _ hM.out
    · have hn0 : (0 : Int) < m := by omega
      obtain ⟨q, hq⟩ : ∃ q, m = q + 1 := ⟨m - 1, by omega⟩
      have ec : canS t.r ss m can = nextS t.r (ss.getD q (0, 0)) can := by subst hq; unfold canS; rw [if_pos (by omega)]; rfl
      obtain ⟨sb, so, hsa, hsb, hsc⟩ := hsl.at_ (by omega)
      obtain ⟨s0, s1⟩ := hsc q (by omega)
      have es := hst _ (getD_lt (L := ss) (i := q) (by rw [hsl.len]; omega))
      generalize ss.getD q (0, 0) = s at s0 s1 es ec
      have HN := Lib.hid (show ∀ W', Calls Try.prog 63 #[.agg t.r.cs, .agg #[.int .i64 s.1, .int .i64 s.2], .agg #[.int .i64 can.1, .int .i64 can.2]] W' fun e w' => e = .returned (.agg #[.int .i64 (nextS t.r s can).1, .int .i64 (nextS t.r s can).2]) ∧ Below W'.heap.size W' w' from fun W' => next_any t.r hs ws s.1 s.2 can.1 can.2 W' hO j6.a j6.b ⟨es.lo, by have := es.le; have := es.hi; omega⟩ ⟨by have := es.le; have := es.lo; omega, es.hi⟩)
      rw [ec] at HC
      clear ec es
      generalize nextS t.r s can = uv at HN HC
      obtain ⟨u, v⟩ := uv
      simp only at HN
      have HY := Lib.hid (fun (W' : World) (hh : RM t (.slice sa N sc) w W z g t.tn L lev lv lv c tk tv tv can st sv sv W') => (show W'.cell? ⟨sb, so + q * 2, none⟩ = some (.int .i64 s.1) ∧ W'.cell? ⟨sb, so + q * 2 + 1, none⟩ = some (.int .i64 s.2) from ⟨(hh.bw.cell (p := ⟨sb, _, none⟩) hsb).trans s0, (hh.bw.cell (p := ⟨sb, _, none⟩) hsb).trans s1⟩))
      have hsa2 : some (Value.slice sa N sc) = some (.slice (some ⟨sb, so, none⟩) N sc) := by rw [hsa]
      have u1 : IntKind.i64.wrap ((m : Int) - 1) = q := by rw [IntWalk.i64_in _ (by omega)]; omega
      have c1 : (0 : Int) ≤ q := by omega
      have c2 : (q : Int) < N := by omega
      replace hq := Lib.hid hq
      replace hsa2 := Lib.hid hsa2
      clear hm0 s0 s1 hsc hsa
      gi_wp2_with fail
      refine wpIn_region_steps2 (I := R7 (fun p W' => RM t (.slice sa N sc) w W z g t.tn L lev lv lv c tk tv tv p st sv sv W') can u v) (V := V7 w.heap.size t.r.cs (.slice (some ⟨sb, so, none⟩) N sc) m q sb so s can) (eff := eff7) (need := need7) (till := till7) 2 (by kernel_rfl) (by decide) (by kernel_rfl) rfl (by kernel_rfl) (by kernel_rfl) (by kernel_rfl) (by kernel_rfl) (by kernel_rfl) (by kernel_rfl) ⟨fun _ => hM.out.below ((Below.refl _ W).drew), fun h => by omega, fun h => by omega⟩ ?steps ?hend
      case hend =>
        rintro outs w' ⟨-, -, hI⟩
        have hI2 := Lib.hid (hI rfl)
        clear hI
        simp only [flowAct, List.filterMap_cons, List.filterMap_nil, patch, List.setIfInBounds_toArray, List.set_cons_zero, List.set_cons_succ]
        exact HC.out _ _ _ _ _ _ _ _ _ _ _ _ hI2.out
      case steps =>
        refine ⟨⟨rfl, fun t ht k' outs u _ => by cases ht; rfl, fun k' outs W' ρ hk1 hk2 hI hc hg h_fn hr ho => ?_⟩, ?_⟩
        · have o1 := ho 1 (by kernel_rfl)
          clear hI
          refine step_pure rfl (v := .pointer (some ⟨w.heap.size, 0, none⟩)) (fun t ht => by cases ht; rfl) ?_
          go_simp
        refine ⟨⟨rfl, fun t ht k' outs u _ => by cases ht; rfl, fun k' outs W' ρ hk1 hk2 hI hc hg h_fn hr ho => ?_⟩, ?_⟩
        · have r24 : ρ (.tmp 24) = .pointer (some ⟨w.heap.size, 0, none⟩) := hr 24 (by kernel_rfl)
          have hk2' : k' ≤ 1 := hk2
          obtain ⟨f0, f1, f2, f3, f4, f5, f6, f7, f8, f9, f10, f11, f12⟩ := (hI.1 (by omega)).cells
          clear hI
          refine step_pure rfl (v := .agg t.r.cs) (fun t ht => by cases ht; rfl) ?_
          go_simp
        refine ⟨⟨rfl, fun t ht k' outs u _ => by cases ht; rfl, fun k' outs W' ρ hk1 hk2 hI hc hg h_fn hr ho => ?_⟩, ?_⟩
        · have o1 := ho 1 (by kernel_rfl)
          clear hI
          refine step_pure rfl (v := .pointer (some ⟨w.heap.size, 9, none⟩)) (fun t ht => by cases ht; rfl) ?_
          go_simp
        refine ⟨⟨rfl, fun t ht k' outs u _ => by cases ht; rfl, fun k' outs W' ρ hk1 hk2 hI hc hg h_fn hr ho => ?_⟩, ?_⟩
        · have r26 : ρ (.tmp 26) = .pointer (some ⟨w.heap.size, 9, none⟩) := hr 26 (by kernel_rfl)
          have hk2' : k' ≤ 1 := hk2
          obtain ⟨f0, f1, f2, f3, f4, f5, f6, f7, f8, f9, f10, f11, f12⟩ := (hI.1 (by omega)).cells
          replace f9 := f9.trans hsa2.out
          clear hI
          refine step_pure rfl (v := .slice (some ⟨sb, so, none⟩) N sc) (fun t ht => by cases ht; rfl) ?_
          go_simp
        refine ⟨⟨rfl, fun t ht k' outs u _ => by cases ht; rfl, fun k' outs W' ρ hk1 hk2 hI hc hg h_fn hr ho => ?_⟩, ?_⟩
        · have o7 := ho 7 (by kernel_rfl)
          clear hI
          refine step_pure rfl (v := .int .i64 m) (fun t ht => by cases ht; rfl) ?_
          go_simp
        refine ⟨⟨rfl, fun t ht k' outs u _ => by cases ht; rfl, fun k' outs W' ρ hk1 hk2 hI hc hg h_fn hr ho => ?_⟩, ?_⟩
        · have r28 : ρ (.tmp 28) = .int .i64 m := hr 28 (by kernel_rfl)
          clear hI
          refine step_pure rfl (v := .int .i64 q) (fun t ht => by cases ht; rfl) ?_
          go_simp
        refine ⟨⟨rfl, fun t ht k' outs u _ => by cases ht; rfl, fun k' outs W' ρ hk1 hk2 hI hc hg h_fn hr ho => ?_⟩, ?_⟩
        · have r27 : ρ (.tmp 27) = .slice (some ⟨sb, so, none⟩) N sc := hr 27 (by kernel_rfl)
          have r29 : ρ (.tmp 29) = .int .i64 q := hr 29 (by kernel_rfl)
          clear hI
          refine step_pure rfl (v := .pointer (some ⟨sb, so + q * 2, none⟩)) (fun t ht => by cases ht; rfl) ?_
          go_simp
        refine ⟨⟨rfl, fun t ht k' outs u _ => by cases ht; rfl, fun k' outs W' ρ hk1 hk2 hI hc hg h_fn hr ho => ?_⟩, ?_⟩
        · have r30 : ρ (.tmp 30) = .pointer (some ⟨sb, so + q * 2, none⟩) := hr 30 (by kernel_rfl)
          have hk2' : k' ≤ 1 := hk2
          obtain ⟨y0, y1⟩ := HY.out _ (hI.1 (by omega))
          clear hI
          refine step_pure rfl (v := .agg #[.int .i64 s.1, .int .i64 s.2]) (fun t ht => by cases ht; rfl) ?_
          go_simp
        refine ⟨⟨rfl, fun t ht k' outs u _ => by cases ht; rfl, fun k' outs W' ρ hk1 hk2 hI hc hg h_fn hr ho => ?_⟩, ?_⟩
        · have o6 := ho 6 (by kernel_rfl)
          have hk2' : k' ≤ 1 := hk2
          obtain ⟨-, -, -, -, b4, b5⟩ := (hI.1 (by omega)).boxes
          clear hI
          refine step_pure rfl (v := .agg #[.int .i64 can.1, .int .i64 can.2]) (fun t ht => by cases ht; rfl) ?_
          go_simp
        refine ⟨⟨rfl, fun t ht k' outs u (h : 0 < k') => by cases ht; show upd outs k' u 0 = outs 0; unfold upd; rw [if_neg (by omega)], fun k' outs W' ρ hk1 hk2 hI hc hg h_fn hr ho => ?_⟩, ?_⟩
        · obtain rfl : k' = 0 := by have h1 : 0 ≤ k' := hk1; have h2 : k' ≤ 0 := hk2; omega
          have r25 : ρ (.tmp 25) = .agg t.r.cs := hr 25 (by kernel_rfl)
          have r31 : ρ (.tmp 31) = .agg #[.int .i64 s.1, .int .i64 s.2] := hr 31 (by kernel_rfl)
          have r32 : ρ (.tmp 32) = .agg #[.int .i64 can.1, .int .i64 can.2] := hr 32 (by kernel_rfl)
          have hfn := h_fn 63
          refine step_call rfl (f := 63) (args := #[.agg t.r.cs, .agg #[.int .i64 s.1, .int .i64 s.2], .agg #[.int .i64 can.1, .int .i64 can.2]]) (w' := W') ?_ ?_
          · clear hI; go_simp
          · refine (HN.out W').mono ?_
            rintro e w2 ⟨rfl, hb2⟩
            exact ⟨_, rfl, ⟨fun _ => (hI.1 (by omega)).below hb2, fun _ => rfl, fun h => by omega⟩, fun t ht => by cases ht; rfl⟩
        refine ⟨⟨rfl, (fun t ht => by cases ht), fun k' outs W' ρ hk1 hk2 hI hc hg h_fn hr ho => ?_⟩, trivial⟩
        · obtain rfl : k' = 1 := by have h1 : 1 ≤ k' := hk1; have h2 : k' ≤ 1 := hk2; omega
          have o6 := ho 6 (by kernel_rfl)
          have r33 : ρ (.tmp 33) = .agg #[.int .i64 u, .int .i64 v] := (hr 33 (by kernel_rfl)).trans (hI.2.1 (by omega))
          have hM1 := hI.1 (by omega)
          obtain ⟨-, -, -, -, b4, b5⟩ := hM1.boxes
          obtain ⟨-, -, -, -, e4, e5⟩ := hM1.free
          have hM2 := hM1.setC (u, v)
          refine step_store rfl rfl (w' := (W'.setCell ⟨z + 1 + 1, 0, none⟩ (.int .i64 u)).setCell ⟨z + 1 + 1, 1, none⟩ (.int .i64 v)) ?_ ⟨fun h => by omega, fun _ => hI.2.1 (by omega), fun _ => hM2⟩
          clear hI hM1 hM2; go_simp
  case done =>
    rintro D xs W hD rfl ⟨c, lv, tv, sv, hM, hJ⟩ hK
    rw [vals_fin] at hM hJ
    have hlev := hJ.lev
    rw [List.length_finRange] at hlev
    obtain ⟨S, hS'⟩ : ∃ S, reachS t.r ss ts mor ⟨L, [], (t.lo, t.hi), [], []⟩ (List.range (N + 1)) = S := ⟨_, rfl⟩
    rw [hS'] at hM hlev
    have hS := Lib.hid hS'
    clear hS' hJ
    obtain ⟨q, cap, C, rfl, hq, hC, hSp⟩ := row_spc hM.rL (by rw [hlev]; omega)
    obtain ⟨ra, rc, rfl, -⟩ := sl2_row hM.rS
    rw [hlev] at hM
    obtain ⟨b0, b1, -⟩ := hM.boxes
    obtain ⟨e0, e1, -⟩ := hM.free
    have hgg' := hM.gg
    have hM3 := ((hM.setL (.slice (some ⟨q, 0, none⟩) (N + 1) cap)).setS (.slice ra S.struck.length rc)).below ((Below.refl _ _).drew)
    have hC3 := (hC.other (p := ⟨w.heap.size + 1, 0, none⟩) (by simp only; omega) (.slice (some ⟨q, 0, none⟩) (N + 1) cap)).other (p := ⟨w.heap.size + 1 + 1, 0, none⟩) (by simp only; omega) (.slice ra S.struck.length rc)
    have eK : ((W.setCell ⟨w.heap.size + 1, 0, none⟩ (.slice (some ⟨q, 0, none⟩) (N + 1) cap)).setCell ⟨w.heap.size + 1 + 1, 0, none⟩ (.slice ra S.struck.length rc)).drew.heap[D]? = some (.deferred (some [])) := (Below.heap_setCell _ _ _ _ (by simp only; omega)).trans ((Below.heap_setCell _ _ _ _ (by simp only; omega)).trans hK)
    have hgr := grownBy_putObj' ((W.setCell ⟨w.heap.size + 1, 0, none⟩ (.slice (some ⟨q, 0, none⟩) (N + 1) cap)).setCell ⟨w.heap.size + 1 + 1, 0, none⟩ (.slice ra S.struck.length rc)).drew D (.deferred none)
    have hM4 := hM3.own hgr (fun r e => by cases e; exact ⟨by omega, _, eK, rfl⟩)
    have E1 := Lib.hid (hC3.drew.own hgr (fun r e => by cases e; exact ⟨_, eK, rfl⟩))
    have E2 := Lib.hid (row_base hM4.rS (show w.heap.size ≤ z + 5 by omega))
    have E3 := Lib.hid hM4.bw
    have x0 := hM4.boxes.1
    have x1 := hM4.boxes.2.1
    clear hM hM3 hM4 hC hC3 hgr I0
    gi_wp2_with fail
    gi_region
    all_goals gi_wp2
    all_goals refine ⟨by simp, .inl ⟨_, _, rfl, run_takeDeferred eK, ?_⟩⟩
    all_goals exact ⟨.tuple #[.slice (some ⟨q, 0, none⟩) (N + 1) cap, .slice ra S.struck.length rc], by simp [results, Try.results88, go_sem, x0, x1], ⟨q, cap, C, _, rfl, ⟨by omega, by omega⟩, E1.out, by rw [hS.out]; exact hSp, by rw [hS.out]; exact E2.out, E3.out⟩⟩
  case stop =>
    rintro D c pre W _ _ h _
    exact h.elim
set_option maxRecDepth 100000 in
set_option maxHeartbeats 8000000 in
theorem knownC_any (t : TkA) (hs ws : List T2) (sa : Option Addr) (sc N k : Nat) (ss L0 : List T2) (XS : List Value) (w : World) (hO : RuOK t.r hs ws) (hN : N ≤ 1000) (hsl : Sl2 w sa N ss) (hst : ∀ s ∈ ss, StrOK s) (hL : L0.length = N + 1) (hok : ∀ p ∈ L0, OkSp p)
    (HR : ∀ W, Below w.heap.size w W → Calls Try.prog 88 #[.agg (t.xc (.slice sa N sc))] W fun e W' => ∃ g cap C sv, e = .returned (.tuple #[.slice (some ⟨g, 0, none⟩) (N + 1) cap, sv]) ∧ (W.heap.size ≤ g ∧ N + 1 ≤ cap) ∧ Ob W' g 28 C ∧ SpC C L0 ∧ W'.ownsRow W.heap.size 78 2 sv k XS ∧ Below W.heap.size W W') :
    Calls Try.prog 71 #[.agg (t.xc (.slice sa N sc))] w fun e W' => ∃ g cap C sv, e = .returned (.tuple #[.slice (some ⟨g, 0, none⟩) (N + 1) cap, sv]) ∧ (w.heap.size ≤ g ∧ N + 1 ≤ cap) ∧ Ob W' g 28 C ∧ SpC C (knownFold t.r ss L0 (backL N (List.finRange N))) ∧ W'.ownsRow w.heap.size 78 2 sv k XS ∧ Below w.heap.size w W' := by
  replace HR := Lib.hid HR
  obtain ⟨W2, hW2⟩ : ∃ W2, (w.alloc (.cells (t.xc (.slice sa N sc)) 104)).alloc (.cells #[.slice none 0 0] 49) = W2 := ⟨_, rfl⟩
  have hb2 : Below w.heap.size w W2 := by rw [← hW2]; exact B_alloc (B_alloc (Below.refl _ _) _) _
  have z2 : W2.heap.size = w.heap.size + 1 + 1 := by rw [← hW2]; simp
  have hT2 : Ob W2 w.heap.size 104 (t.xc (.slice sa N sc)) := by rw [← hW2]; exact (Ob.new w _ _).alloc _
  have hR2 : Ob W2 (w.heap.size + 1) 49 #[.slice none 0 0] := by rw [← hW2]; simpa using Ob.new (w.alloc (.cells (t.xc (.slice sa N sc)) 104)) #[.slice none 0 0] 49
  have kt : ∀ j, W2.cell? ⟨w.heap.size, j, none⟩ = (t.xc (.slice sa N sc))[j]? := fun j => hT2.cell j
  have k0 := kt 0
  have k1 := kt 1
  have k2 := kt 2
  have k3 := kt 3
  have k4 := kt 4
  have k5 := kt 5
  have k6 := kt 6
  have k7 := kt 7
  have k8 := kt 8
  have k9 := kt 9
  have k10 := kt 10
  have k11 := kt 11
  have k12 := kt 12
  simp only [List.getElem?_toArray, List.getElem?_cons_zero, List.getElem?_cons_succ] at k0 k1 k2 k3 k4 k5 k6 k7 k8 k9 k10 k11 k12
  clear kt
  replace hb2 := Lib.hid hb2
  replace hT2 := Lib.hid hT2
  replace hR2 := Lib.hid hR2
  replace hW2 := Lib.hid hW2
  refine (callsIn_wide (n := 8)).1 ?_
  refine callsIn_of_wp_marks Try.func71 rfl trivial ?_ rfl
  simp only [Try.ntmps71, List.size_toArray, List.length_cons, List.length_nil, Nat.reduceAdd, Nat.reduceSub, Array.replicate_succ, Array.replicate_zero, List.push_toArray, List.append_toArray, List.nil_append, List.cons_append]
  gi_wp2_with fail
  rw [hW2.out]
  refine ⟨trivial, CallsIn.mono (callsIn_wide.2 (HR.out W2 hb2.out)) ?_⟩
  rintro e W3 ⟨g, cap, C, sv, rfl, hg, hC, hSp, hrow, hb3⟩
  have o1 := hT2.out.below hb3
  have o2 := hR2.out.below hb3
  have hgb : Below w.heap.size w W3 := B_trans hb2.out hb3
  obtain ⟨W4, hW4⟩ : ∃ W4, W3.setCell ⟨w.heap.size + 1, 0, none⟩ (.slice (some ⟨g, 0, none⟩) (N + 1) cap) = W4 := ⟨_, rfl⟩
  have p1 : Ob W4 w.heap.size 104 (t.xc (.slice sa N sc)) := by rw [← hW4]; exact o1.other (by simp) _
  have p2 : Ob W4 (w.heap.size + 1) 49 #[.slice (some ⟨g, 0, none⟩) (N + 1) cap] := by rw [← hW4]; simpa using o2.set 0 (.slice (some ⟨g, 0, none⟩) (N + 1) cap)
  have p3 : Ob W4 g 28 C := by rw [← hW4]; exact hC.other (by simp; omega) _
  have p4 : W4.ownsRow w.heap.size 78 2 sv k XS := by
    rw [← hW4]
    refine row_set (row_base hrow (by omega)) ?_ _
    exact o2.row hrow (by decide)
  have p5 : Below w.heap.size w W4 := by rw [← hW4]; exact hgb.setCell (by simp) _
  have c2 := o2.cell 0
  have f2 := o2.frozen 0
  have q9 := o1.cell 9
  simp only [List.getElem?_toArray, List.getElem?_cons_zero, List.getElem?_cons_succ] at c2 q9
  clear k0 k1 k2 k3 k4 k5 k6 k7 k8 k9 k10 k11 k12 hrow hC o1 o2 hgb
  replace hW4 := Lib.hid hW4
  have P := Lib.hid (show Ob W4 w.heap.size 104 (t.xc (.slice sa N sc)) ∧ Ob W4 (w.heap.size + 1) 49 #[.slice (some ⟨g, 0, none⟩) (N + 1) cap] ∧ Ob W4 g 28 C ∧ W4.ownsRow w.heap.size 78 2 sv k XS ∧ Below w.heap.size w W4 from ⟨p1, p2, p3, p4, p5⟩)
  clear p1 p2 p3 p4 p5
  gi_wp2_with fail
  rw [hW4.out]
  refine ⟨trivial, (backward_in Fence.wide 7 trivial rfl 0 N W4).mono ?_⟩
  rintro e W5 ⟨rfl, hW5⟩
  have hb5 : Below W4.heap.size W4 W5 := by rw [hW5]; exact B_alloc (B_alloc (Below.refl _ _) _) _
  have z5 : W5.heap.size = W4.heap.size + 1 + 1 := by rw [hW5]; simp
  have d0 : W5.cell? ⟨W4.heap.size, 0, none⟩ = some (.int .i64 0) := by rw [hW5, alloc_old _ _ _ _ (by simp)]; simp [go_sem]
  have d1 : W5.cell? ⟨W4.heap.size + 1, 0, none⟩ = some (.int .i64 (N : Int)) := by rw [hW5]; simp
  obtain ⟨p1, p2, p3, p4, p5⟩ := P.out
  have hgl := p3.lt
  have I0 : Hid (Ob W5 w.heap.size 104 (t.xc (.slice sa N sc)) ∧ Ob W5 (w.heap.size + 1) 49 #[.slice (some ⟨g, 0, none⟩) (N + 1) cap] ∧ Ob W5 g 28 C ∧ W5.ownsRow w.heap.size 78 2 sv k XS ∧ Below w.heap.size w W5) := ⟨p1.below hb5, p2.below hb5, p3.below hb5, row_below p4 hb5, B_trans p5 hb5⟩
  have hz4 := p2.lt
  clear p1 p2 p3 p4 p5 hW5 hW4 P c2 f2 q9 hb3 hb5
  generalize hF1 : W4.heap.size = F1 at *
  clear hF1
  gi_wp2_with fail
  refine wpIn_rangeFunc_ownG rfl (by omega) (gf := 113) (lb := #[.pointer (some ⟨F1 + 1, 0, none⟩), .pointer (some ⟨F1, 0, none⟩)]) rfl trivial (enters_of Try.func113 (by kernel_rfl) rfl) (backward_stops Fence.wide 7 trivial rfl (by omega) F1 (F1 + 1) N 0 N (by omega) (by omega) (by omega) (by omega) W5 (by omega) (by omega) d0 d1) KB2.trans (fun W l o o' h1 _ _ _ => KB2.put (n := W5.heap.size) (by omega) (by omega) W l o' h1) (Below.refl _ _) (fun _ => rfl)
    (fun pre W => ∃ C', Ob W g 28 C' ∧ SpC C' (knownFold t.r ss L0 (backL N pre)) ∧ Ob W w.heap.size 104 (t.xc (.slice sa N sc)) ∧ Ob W (w.heap.size + 1) 49 #[.slice (some ⟨g, 0, none⟩) (N + 1) cap] ∧ W.ownsRow w.heap.size 78 2 sv k XS ∧ Below w.heap.size w W ∧ F1 + 1 < W.heap.size)
    (fun _ _ _ => False)
    ?own (fun _ _ _ _ _ hs _ _ => hs) ⟨C, I0.out.2.2.1, by simpa [backL, knownFold] using hSp, I0.out.1, I0.out.2.1, I0.out.2.2.2.1, I0.out.2.2.2.2, by omega⟩ ?a1 ?assign ?body ?done ?stop
  case own =>
    rintro pre W W' row ⟨C', h1, h2, h3, h4, h5, h6, h7⟩ hgr hr
    exact ⟨C', h1.own hgr (fun r e => (hr r e).2), h2, h3.own hgr (fun r e => (hr r e).2), h4.own hgr (fun r e => (hr r e).2), row_own h5 hgr (fun r e => (hr r e).2), below_own h6 (Nat.le_refl _) hgr (fun r e => by have := (hr r e).1; omega), Nat.lt_of_lt_of_le h7 hgr.size⟩
  case assign =>
    intro l x W K hK
    gi_wp2
    exact hK
  case body =>
    rintro l pre x W ⟨C', h1, h2, h3, h4, h5, h6, h7⟩ hlen
    obtain ⟨m, hm, hmx⟩ : ∃ m : Nat, ((N : Int) - 1 - x.val = m) ∧ m = N - 1 - x.val := ⟨N - 1 - x.val, by have := x.isLt; omega, rfl⟩
    have hmN : m < N := by have := x.isLt; omega
    have hstep : Hid (knownFold t.r ss L0 (backL N (pre ++ [x])) = knownStep t.r ss (knownFold t.r ss L0 (backL N pre)) m) := by
      rw [Hid, hmx]; unfold backL; rw [List.map_append, List.map_cons, List.map_nil, known_snoc]
    have hLl : (knownFold t.r ss L0 (backL N pre)).length = N + 1 := by rw [known_len, hL]
    have hLo := known_ok hO hsl.len hst (backL N pre) L0 hL hok (fun q hq => by
      unfold backL at hq
      rw [List.mem_map] at hq
      obtain ⟨y, -, rfl⟩ := hq
      have := y.isLt
      omega)
    generalize knownFold t.r ss L0 (backL N pre) = LL at h2 hstep hLl hLo
    obtain ⟨sb, so, hsa, hsb, hsc⟩ := (hsl.below h6).at_ (by omega)
    obtain ⟨s0, s1⟩ := hsc m hmN
    obtain ⟨n0, n1⟩ := h2.c m (by omega)
    obtain ⟨x0, x1⟩ := h2.c (m + 1) (by omega)
    have es := hst _ (getD_lt (L := ss) (i := m) (by rw [hsl.len]; exact hmN))
    have en := hLo _ (getD_lt (L := LL) (i := m) (by omega))
    unfold knownStep at hstep
    generalize ss.getD m (0, 0) = s at s0 s1 es hstep
    generalize LL.getD m (0, 0) = nn at n0 n1 en hstep
    generalize LL.getD (m + 1) (0, 0) = xx at x0 x1 hstep
    have HB := Lib.hid (show ∀ W', Calls Try.prog 90 #[.agg t.r.cs, .agg #[.int .i64 s.1, .int .i64 s.2], .agg #[.int .i64 nn.1, .int .i64 nn.2], .agg #[.int .i64 xx.1, .int .i64 xx.2]] W' fun e w' => e = .returned (.agg #[.int .i64 (beforeS t.r s nn xx).1, .int .i64 (beforeS t.r s nn xx).2]) ∧ Below W'.heap.size W' w' from fun W' => before_any t.r hs ws s.1 s.2 nn.1 nn.2 xx.1 xx.2 W' hO en.lo en.hi en.le ⟨es.lo, by have := es.le; have := es.hi; omega⟩ ⟨by have := es.le; have := es.lo; omega, es.hi⟩)
    have hset := Lib.hid (h2.set (m := m) (by omega) (beforeS t.r s nn xx))
    generalize hu : (beforeS t.r s nn xx).1 = u at HB hset
    generalize hv : (beforeS t.r s nn xx).2 = v at HB hset
    have HK := Lib.hid (fun (W' : World) (hh : Below W.heap.size W W') => (show W'.cell? ⟨w.heap.size + 1, 0, none⟩ = some (.slice (some ⟨g, 0, none⟩) (N + 1) cap) ∧ W'.cell? ⟨w.heap.size, 0, none⟩ = some (.slice t.r.ha t.r.hn t.r.hc) ∧ W'.cell? ⟨w.heap.size, 1, none⟩ = some (.slice t.r.wa t.r.wn t.r.wc) ∧ W'.cell? ⟨w.heap.size, 2, none⟩ = some (.int .i64 t.r.own) ∧ W'.cell? ⟨w.heap.size, 3, none⟩ = some (.int .i64 t.r.feed) ∧ W'.cell? ⟨w.heap.size, 4, none⟩ = some (.int .i64 t.r.g0) ∧ W'.cell? ⟨w.heap.size, 5, none⟩ = some (.int .i64 t.r.g1) ∧ W'.cell? ⟨w.heap.size, 6, none⟩ = some (.int .i64 t.r.g2) ∧ W'.cell? ⟨w.heap.size, 7, none⟩ = some (.int .i64 t.r.lost) ∧ W'.cell? ⟨w.heap.size, 9, none⟩ = some (.slice (some ⟨sb, so, none⟩) N sc) ∧ W'.cell? ⟨sb, so + m * 2, none⟩ = some (.int .i64 s.1) ∧ W'.cell? ⟨sb, so + m * 2 + 1, none⟩ = some (.int .i64 s.2) ∧ W'.cell? ⟨g, m * 2, none⟩ = some (.int .i64 nn.1) ∧ W'.cell? ⟨g, m * 2 + 1, none⟩ = some (.int .i64 nn.2) ∧ W'.cell? ⟨g, (m + 1) * 2, none⟩ = some (.int .i64 xx.1) ∧ W'.cell? ⟨g, (m + 1) * 2 + 1, none⟩ = some (.int .i64 xx.2) from ⟨(hh.cell (p := ⟨w.heap.size + 1, _, none⟩) h4.lt).trans (h4.cell 0), (hh.cell (p := ⟨w.heap.size, _, none⟩) h3.lt).trans (h3.cell 0), (hh.cell (p := ⟨w.heap.size, _, none⟩) h3.lt).trans (h3.cell 1), (hh.cell (p := ⟨w.heap.size, _, none⟩) h3.lt).trans (h3.cell 2), (hh.cell (p := ⟨w.heap.size, _, none⟩) h3.lt).trans (h3.cell 3), (hh.cell (p := ⟨w.heap.size, _, none⟩) h3.lt).trans (h3.cell 4), (hh.cell (p := ⟨w.heap.size, _, none⟩) h3.lt).trans (h3.cell 5), (hh.cell (p := ⟨w.heap.size, _, none⟩) h3.lt).trans (h3.cell 6), (hh.cell (p := ⟨w.heap.size, _, none⟩) h3.lt).trans (h3.cell 7), (hh.cell (p := ⟨w.heap.size, _, none⟩) h3.lt).trans ((h3.cell 9).trans (by rw [hsa]; rfl)), (hh.cell (p := ⟨sb, _, none⟩) hsb).trans s0, (hh.cell (p := ⟨sb, _, none⟩) hsb).trans s1, (hh.cell (p := ⟨g, _, none⟩) h1.lt).trans ((h1.cell _).trans n0), (hh.cell (p := ⟨g, _, none⟩) h1.lt).trans ((h1.cell _).trans n1), (hh.cell (p := ⟨g, _, none⟩) h1.lt).trans ((h1.cell _).trans x0), (hh.cell (p := ⟨g, _, none⟩) h1.lt).trans ((h1.cell _).trans x1)⟩))
    have HF := Lib.hid (fun (W' : World) (hh : Below W.heap.size W W') (q : Nat) => (hh.frozen (p := ⟨g, q, none⟩) h1.lt).trans (h1.frozen q))
    have a1 : (0 : Int) ≤ m := by omega
    have a2 : (m : Int) < N := by omega
    have a3 : (m : Int) < (N : Int) + 1 := by omega
    have a4 : (m : Int) + 1 < (N : Int) + 1 := by omega
    have a5 : (0 : Int) ≤ (m : Int) + 1 := by omega
    have a6 : ((m : Int) + 1).toNat = m + 1 := by omega
    have u1 : IntKind.i64.wrap ((m : Int) + 1) = (m : Int) + 1 := IntWalk.i64_in _ (by omega)
    have hsum := Lib.hid (show Ob W g 28 C' ∧ Ob W w.heap.size 104 (t.xc (.slice sa N sc)) ∧ Ob W (w.heap.size + 1) 49 #[.slice (some ⟨g, 0, none⟩) (N + 1) cap] ∧ W.ownsRow w.heap.size 78 2 sv k XS ∧ Below w.heap.size w W from ⟨h1, h3, h4, h5, h6⟩)
    have hmN' := Lib.hid hmN
    have hgm : g ≠ w.heap.size ∧ g ≠ w.heap.size + 1 := by omega
    have hrow := h1.row h5 (by decide)
    replace hu := Lib.hid hu
    replace hv := Lib.hid hv
    have hwg : w.heap.size ≤ g := by omega
    clear h1 h3 h4 h5 h6 s0 s1 n0 n1 x0 x1 hsc hsb es en h2 hLo hmx
    gi_wp2_with fail
    rw [hm]
    clear hm
    rw [hsa]
    refine wpIn_region_steps2 (I := KI W g m u v) (V := KV w.heap.size t.r.cs (.slice (some ⟨g, 0, none⟩) (N + 1) cap) (.slice (some ⟨sb, so, none⟩) N sc) g m sb so s nn xx) (eff := keff) (need := kneed) (till := ktill) 2 (by kernel_rfl) (by decide) (by kernel_rfl) rfl (by kernel_rfl) (by kernel_rfl) (by kernel_rfl) (by kernel_rfl) (by kernel_rfl) (by kernel_rfl) ⟨fun h => by omega, fun _ => (Below.refl _ W).drew, fun h => by omega⟩ ?steps ?hend
    case hend =>
      rintro outs w' ⟨-, -, hI⟩
      obtain ⟨W1, hb1, rfl⟩ := hI rfl
      obtain ⟨o1, o3, o4, o5, o6⟩ := hsum.out
      have q1 := o1.below hb1
      refine ⟨keeps_two _ _ hb1 (by omega), kb2_two _ _ hb1 (by omega) (by omega) (by omega) (by omega), _, (q1.set _ _).set _ _, ?_, ((o3.below hb1).other (by simp only; omega) _).other (by simp only; omega) _, ((o4.below hb1).other (by simp only; omega) _).other (by simp only; omega) _, ?_, ((B_trans o6 hb1).setCell hwg _).setCell hwg _, ?_⟩
      · rw [hstep.out]
        have := hset.out
        exact this
      · exact row_set (row_set (row_below o5 hb1) hrow _) hrow _
      · have := hb1.size
        simp only [World.setCell, Array.size_modify]
        omega
    case steps =>
      refine ⟨⟨rfl, fun t ht k' outs u _ => by cases ht; rfl, fun k' outs W' ρ hk1 hk2 hI hc hg h_fn hr ho => ?_⟩, ?_⟩
      · have o2 := ho 2 (by kernel_rfl)
        have hk2' : k' ≤ 1 := hk2
        obtain ⟨f0, f1, f2, f3, f4, f5, f6, f7, f8, f9, f10, f11, f12, f13, f14, f15⟩ := HK.out W' (hI.2.1 (by omega))
        clear hI
        refine step_pure rfl (v := (.slice (some ⟨g, 0, none⟩) (N + 1) cap)) (fun t ht => by cases ht; rfl) ?_
        go_simp
      refine ⟨⟨rfl, fun t ht k' outs u _ => by cases ht; rfl, fun k' outs W' ρ hk1 hk2 hI hc hg h_fn hr ho => ?_⟩, ?_⟩
      · have o4 := ho 4 (by kernel_rfl)
        clear hI
        refine step_pure rfl (v := .int .i64 m) (fun t ht => by cases ht; rfl) ?_
        go_simp
      refine ⟨⟨rfl, fun t ht k' outs u _ => by cases ht; rfl, fun k' outs W' ρ hk1 hk2 hI hc hg h_fn hr ho => ?_⟩, ?_⟩
      · have o1 := ho 1 (by kernel_rfl)
        clear hI
        refine step_pure rfl (v := .pointer (some ⟨w.heap.size, 0, none⟩)) (fun t ht => by cases ht; rfl) ?_
        go_simp
      refine ⟨⟨rfl, fun t ht k' outs u _ => by cases ht; rfl, fun k' outs W' ρ hk1 hk2 hI hc hg h_fn hr ho => ?_⟩, ?_⟩
      · have r17 : ρ (.tmp 17) = .pointer (some ⟨w.heap.size, 0, none⟩) := hr 17 (by kernel_rfl)
        have hk2' : k' ≤ 1 := hk2
        obtain ⟨f0, f1, f2, f3, f4, f5, f6, f7, f8, f9, f10, f11, f12, f13, f14, f15⟩ := HK.out W' (hI.2.1 (by omega))
        clear hI
        refine step_pure rfl (v := .agg t.r.cs) (fun t ht => by cases ht; rfl) ?_
        go_simp
      refine ⟨⟨rfl, fun t ht k' outs u _ => by cases ht; rfl, fun k' outs W' ρ hk1 hk2 hI hc hg h_fn hr ho => ?_⟩, ?_⟩
      · have o1 := ho 1 (by kernel_rfl)
        clear hI
        refine step_pure rfl (v := .pointer (some ⟨w.heap.size, 9, none⟩)) (fun t ht => by cases ht; rfl) ?_
        go_simp
      refine ⟨⟨rfl, fun t ht k' outs u _ => by cases ht; rfl, fun k' outs W' ρ hk1 hk2 hI hc hg h_fn hr ho => ?_⟩, ?_⟩
      · have r19 : ρ (.tmp 19) = .pointer (some ⟨w.heap.size, 9, none⟩) := hr 19 (by kernel_rfl)
        have hk2' : k' ≤ 1 := hk2
        obtain ⟨f0, f1, f2, f3, f4, f5, f6, f7, f8, f9, f10, f11, f12, f13, f14, f15⟩ := HK.out W' (hI.2.1 (by omega))
        clear hI
        refine step_pure rfl (v := .slice (some ⟨sb, so, none⟩) N sc) (fun t ht => by cases ht; rfl) ?_
        go_simp
      refine ⟨⟨rfl, fun t ht k' outs u _ => by cases ht; rfl, fun k' outs W' ρ hk1 hk2 hI hc hg h_fn hr ho => ?_⟩, ?_⟩
      · have o4 := ho 4 (by kernel_rfl)
        clear hI
        refine step_pure rfl (v := .int .i64 m) (fun t ht => by cases ht; rfl) ?_
        go_simp
      refine ⟨⟨rfl, fun t ht k' outs u _ => by cases ht; rfl, fun k' outs W' ρ hk1 hk2 hI hc hg h_fn hr ho => ?_⟩, ?_⟩
      · have r20 : ρ (.tmp 20) = .slice (some ⟨sb, so, none⟩) N sc := hr 20 (by kernel_rfl)
        have r21 : ρ (.tmp 21) = .int .i64 m := hr 21 (by kernel_rfl)
        clear hI
        refine step_pure rfl (v := .pointer (some ⟨sb, so + m * 2, none⟩)) (fun t ht => by cases ht; rfl) ?_
        go_simp
      refine ⟨⟨rfl, fun t ht k' outs u _ => by cases ht; rfl, fun k' outs W' ρ hk1 hk2 hI hc hg h_fn hr ho => ?_⟩, ?_⟩
      · have r22 : ρ (.tmp 22) = .pointer (some ⟨sb, so + m * 2, none⟩) := hr 22 (by kernel_rfl)
        have hk2' : k' ≤ 1 := hk2
        obtain ⟨f0, f1, f2, f3, f4, f5, f6, f7, f8, f9, f10, f11, f12, f13, f14, f15⟩ := HK.out W' (hI.2.1 (by omega))
        clear hI
        refine step_pure rfl (v := .agg #[.int .i64 s.1, .int .i64 s.2]) (fun t ht => by cases ht; rfl) ?_
        go_simp
      refine ⟨⟨rfl, fun t ht k' outs u _ => by cases ht; rfl, fun k' outs W' ρ hk1 hk2 hI hc hg h_fn hr ho => ?_⟩, ?_⟩
      · have o2 := ho 2 (by kernel_rfl)
        have hk2' : k' ≤ 1 := hk2
        obtain ⟨f0, f1, f2, f3, f4, f5, f6, f7, f8, f9, f10, f11, f12, f13, f14, f15⟩ := HK.out W' (hI.2.1 (by omega))
        clear hI
        refine step_pure rfl (v := (.slice (some ⟨g, 0, none⟩) (N + 1) cap)) (fun t ht => by cases ht; rfl) ?_
        go_simp
      refine ⟨⟨rfl, fun t ht k' outs u _ => by cases ht; rfl, fun k' outs W' ρ hk1 hk2 hI hc hg h_fn hr ho => ?_⟩, ?_⟩
      · have o4 := ho 4 (by kernel_rfl)
        clear hI
        refine step_pure rfl (v := .int .i64 m) (fun t ht => by cases ht; rfl) ?_
        go_simp
      refine ⟨⟨rfl, fun t ht k' outs u _ => by cases ht; rfl, fun k' outs W' ρ hk1 hk2 hI hc hg h_fn hr ho => ?_⟩, ?_⟩
      · have r24 : ρ (.tmp 24) = (.slice (some ⟨g, 0, none⟩) (N + 1) cap) := hr 24 (by kernel_rfl)
        have r25 : ρ (.tmp 25) = .int .i64 m := hr 25 (by kernel_rfl)
        clear hI
        refine step_pure rfl (v := .pointer (some ⟨g, m * 2, none⟩)) (fun t ht => by cases ht; rfl) ?_
        go_simp
      refine ⟨⟨rfl, fun t ht k' outs u _ => by cases ht; rfl, fun k' outs W' ρ hk1 hk2 hI hc hg h_fn hr ho => ?_⟩, ?_⟩
      · have r26 : ρ (.tmp 26) = .pointer (some ⟨g, m * 2, none⟩) := hr 26 (by kernel_rfl)
        have hk2' : k' ≤ 1 := hk2
        obtain ⟨f0, f1, f2, f3, f4, f5, f6, f7, f8, f9, f10, f11, f12, f13, f14, f15⟩ := HK.out W' (hI.2.1 (by omega))
        clear hI
        refine step_pure rfl (v := .agg #[.int .i64 nn.1, .int .i64 nn.2]) (fun t ht => by cases ht; rfl) ?_
        go_simp
      refine ⟨⟨rfl, fun t ht k' outs u _ => by cases ht; rfl, fun k' outs W' ρ hk1 hk2 hI hc hg h_fn hr ho => ?_⟩, ?_⟩
      · have o2 := ho 2 (by kernel_rfl)
        have hk2' : k' ≤ 1 := hk2
        obtain ⟨f0, f1, f2, f3, f4, f5, f6, f7, f8, f9, f10, f11, f12, f13, f14, f15⟩ := HK.out W' (hI.2.1 (by omega))
        clear hI
        refine step_pure rfl (v := (.slice (some ⟨g, 0, none⟩) (N + 1) cap)) (fun t ht => by cases ht; rfl) ?_
        go_simp
      refine ⟨⟨rfl, fun t ht k' outs u _ => by cases ht; rfl, fun k' outs W' ρ hk1 hk2 hI hc hg h_fn hr ho => ?_⟩, ?_⟩
      · have o4 := ho 4 (by kernel_rfl)
        clear hI
        refine step_pure rfl (v := .int .i64 m) (fun t ht => by cases ht; rfl) ?_
        go_simp
      refine ⟨⟨rfl, fun t ht k' outs u _ => by cases ht; rfl, fun k' outs W' ρ hk1 hk2 hI hc hg h_fn hr ho => ?_⟩, ?_⟩
      · have r29 : ρ (.tmp 29) = .int .i64 m := hr 29 (by kernel_rfl)
        clear hI
        refine step_pure rfl (v := .int .i64 ((m : Int) + 1)) (fun t ht => by cases ht; rfl) ?_
        go_simp
      refine ⟨⟨rfl, fun t ht k' outs u _ => by cases ht; rfl, fun k' outs W' ρ hk1 hk2 hI hc hg h_fn hr ho => ?_⟩, ?_⟩
      · have r28 : ρ (.tmp 28) = (.slice (some ⟨g, 0, none⟩) (N + 1) cap) := hr 28 (by kernel_rfl)
        have r30 : ρ (.tmp 30) = .int .i64 ((m : Int) + 1) := hr 30 (by kernel_rfl)
        clear hI
        refine step_pure rfl (v := .pointer (some ⟨g, (m + 1) * 2, none⟩)) (fun t ht => by cases ht; rfl) ?_
        go_simp
      refine ⟨⟨rfl, fun t ht k' outs u _ => by cases ht; rfl, fun k' outs W' ρ hk1 hk2 hI hc hg h_fn hr ho => ?_⟩, ?_⟩
      · have r31 : ρ (.tmp 31) = .pointer (some ⟨g, (m + 1) * 2, none⟩) := hr 31 (by kernel_rfl)
        have hk2' : k' ≤ 1 := hk2
        obtain ⟨f0, f1, f2, f3, f4, f5, f6, f7, f8, f9, f10, f11, f12, f13, f14, f15⟩ := HK.out W' (hI.2.1 (by omega))
        clear hI
        refine step_pure rfl (v := .agg #[.int .i64 xx.1, .int .i64 xx.2]) (fun t ht => by cases ht; rfl) ?_
        go_simp
      refine ⟨⟨rfl, fun t ht k' outs u (h : 0 < k') => by cases ht; show upd outs k' u 0 = outs 0; unfold upd; rw [if_neg (by omega)], fun k' outs W' ρ hk1 hk2 hI hc hg h_fn hr ho => ?_⟩, ?_⟩
      · have r18 : ρ (.tmp 18) = .agg t.r.cs := hr 18 (by kernel_rfl)
        have r23 : ρ (.tmp 23) = .agg #[.int .i64 s.1, .int .i64 s.2] := hr 23 (by kernel_rfl)
        have r27 : ρ (.tmp 27) = .agg #[.int .i64 nn.1, .int .i64 nn.2] := hr 27 (by kernel_rfl)
        have r32 : ρ (.tmp 32) = .agg #[.int .i64 xx.1, .int .i64 xx.2] := hr 32 (by kernel_rfl)
        have hfn := h_fn 90
        obtain rfl : k' = 0 := Nat.le_zero.1 hk2
        refine step_call rfl (f := 90) (args := #[.agg t.r.cs, .agg #[.int .i64 s.1, .int .i64 s.2], .agg #[.int .i64 nn.1, .int .i64 nn.2], .agg #[.int .i64 xx.1, .int .i64 xx.2]]) (w' := W') ?_ ?_
        · clear hI; go_simp
        · refine (HB.out W').mono ?_
          rintro e w2 ⟨rfl, hb2⟩
          exact ⟨_, rfl, ⟨fun _ => rfl, fun _ => B_trans (hI.2.1 (by omega)) hb2, fun h => by omega⟩, fun t ht => by cases ht; rfl⟩
      refine ⟨⟨rfl, fun t ht k' outs u _ => by cases ht; rfl, fun k' outs W' ρ hk1 hk2 hI hc hg h_fn hr ho => ?_⟩, ?_⟩
      · have r15 : ρ (.tmp 15) = (.slice (some ⟨g, 0, none⟩) (N + 1) cap) := hr 15 (by kernel_rfl)
        have r16 : ρ (.tmp 16) = .int .i64 m := hr 16 (by kernel_rfl)
        clear hI
        refine step_pure rfl (v := .pointer (some ⟨g, m * 2, none⟩)) (fun t ht => by cases ht; rfl) ?_
        go_simp
      refine ⟨⟨rfl, (fun t ht => by cases ht), fun k' outs W' ρ hk1 hk2 hI hc hg h_fn hr ho => ?_⟩, trivial⟩
      · obtain rfl : k' = 1 := by have h1 : 1 ≤ k' := hk1; have h2 : k' ≤ 1 := hk2; omega
        have r34 : ρ (.tmp 34) = .pointer (some ⟨g, m * 2, none⟩) := hr 34 (by kernel_rfl)
        have r33 : ρ (.tmp 33) = .agg #[.int .i64 u, .int .i64 v] := (hr 33 (by kernel_rfl)).trans (hI.1 (by omega))
        have hbW := hI.2.1 (by omega)
        obtain ⟨f0, f1, f2, f3, f4, f5, f6, f7, f8, f9, f10, f11, f12, f13, f14, f15⟩ := HK.out W' hbW
        have z0 := HF.out W' hbW (m * 2)
        have z1 := HF.out W' hbW (m * 2 + 1)
        refine step_store rfl rfl (w' := (W'.setCell ⟨g, m * 2, none⟩ (.int .i64 u)).setCell ⟨g, m * 2 + 1, none⟩ (.int .i64 v)) ?_ ⟨fun _ => hI.1 (by omega), fun h => by omega, fun _ => ⟨W', hbW, rfl⟩⟩
        clear hI hbW; go_simp
  case done =>
    rintro D xs W hD rfl ⟨C', h1, h2, h3, h4, h5, h6, -⟩ hK
    have c0 := h4.cell 0
    have f0 := h4.frozen 0
    simp only [List.getElem?_toArray, List.getElem?_cons_zero] at c0
    have hs4 := h4.set 0 (.slice (some ⟨g, 0, none⟩) (N + 1) cap)
    have e1 := h1.other (p := ⟨w.heap.size + 1, 0, none⟩) (by simp only; omega) (.slice (some ⟨g, 0, none⟩) (N + 1) cap)
    have e5 := row_set (a := ⟨w.heap.size + 1, 0, none⟩) h5 (h4.row h5 (by decide)) (.slice (some ⟨g, 0, none⟩) (N + 1) cap)
    have e6 := h6.setCell (p := ⟨w.heap.size + 1, 0, none⟩) (by simp) (.slice (some ⟨g, 0, none⟩) (N + 1) cap)
    have eK : (W.setCell ⟨w.heap.size + 1, 0, none⟩ (.slice (some ⟨g, 0, none⟩) (N + 1) cap)).heap[D]? = some (.deferred (some [])) := (Below.heap_setCell _ _ _ _ (by simp only; omega)).trans hK
    have hq := grownBy_putObj' (W.setCell ⟨w.heap.size + 1, 0, none⟩ (.slice (some ⟨g, 0, none⟩) (N + 1) cap)) D (.deferred none)
    have E1 := Lib.hid (e1.grown hq (by intro e; cases e; omega))
    have E5 := Lib.hid (row_own e5 hq (fun r e => by cases e; exact ⟨_, eK, rfl⟩))
    have E6 := Lib.hid (below_own e6 (Nat.le_refl _) hq (fun r e => by cases e; omega))
    have c1 := (hs4.grown hq (by intro e; cases e; omega)).cell 0
    simp only [List.setIfInBounds_toArray, List.set_cons_zero, List.getElem?_toArray, List.getElem?_cons_zero] at c1
    clear h1 h3 h4 h5 h6 hs4 e1 e5 e6 hq
    gi_wp2
    refine ⟨by simp, .inl ⟨_, _, rfl, run_takeDeferred eK, ?_⟩⟩
    exact ⟨.tuple #[.slice (some ⟨g, 0, none⟩) (N + 1) cap, sv], by simp [results, Try.results71, go_sem, c1], ⟨g, cap, C', sv, rfl, ⟨by omega, by omega⟩, E1.out, h2, E5.out, E6.out⟩⟩
  case stop =>
    rintro D c pre W _ _ h _
    exact h.elim
set_option maxRecDepth 100000 in
set_option maxHeartbeats 8000000 in
theorem levelsC_ok (t : TkA) (hs ws : List T2) (ds : List T4) (ts : List T3) (k : Nat) (LL : List T2) (XS : List Value) (w : World) (hR : TkR w t hs ws ds ts) (he : (taskS t hs ws ds ts).2.2 = 0)
    (HK : ∀ W v, W.ownsRow w.heap.size 28 2 v t.dn (flat2 (ds.map (strS hs ws))) → Below w.heap.size w W → Calls Try.prog 71 #[.agg (t.xc v)] W fun e W' => ∃ g cap C sv, e = .returned (.tuple #[.slice (some ⟨g, 0, none⟩) (t.dn + 1) cap, sv]) ∧ (W.heap.size ≤ g ∧ t.dn + 1 ≤ cap) ∧ Ob W' g 28 C ∧ SpC C LL ∧ W'.ownsRow W.heap.size 78 2 sv k XS ∧ Below W.heap.size W W') :
    Calls Try.prog 28 #[.agg t.cs] w fun e W' => ∃ g cap C sv, e = .returned (.tuple #[.slice (some ⟨g, 0, none⟩) (t.dn + 1) cap, sv, .int .i64 0]) ∧ (w.heap.size ≤ g ∧ t.dn + 1 ≤ cap) ∧ Ob W' g 28 C ∧ SpC C LL ∧ W'.ownsRow w.heap.size 78 2 sv k XS ∧ Below w.heap.size w W' := by
  have ok := TaskOK.of he
  obtain ⟨w0, hw0⟩ : ∃ w0, w.alloc (.cells t.cs 31) = w0 := ⟨_, rfl⟩
  have hb0 : Below w.heap.size w w0 := by rw [← hw0]; exact B_alloc (Below.refl _ _) _
  have hT0 : TBox w0 w.heap.size t := by rw [← hw0]; exact TBox.new w t 31
  have H1 := Lib.hid (checkTask_any t hs ws ds ts w0 (hR.below hb0))
  have H2 := Lib.hid (fun W (h : Below w.heap.size w W) => taskOf_any t hs ws ds ts W (hR.below h) (RuOK.of ok.r) ok.dn)
  rw [show tri (taskS t hs ws ds ts) = .tuple #[.int .i64 (taskS t hs ws ds ts).1, .int .i64 (taskS t hs ws ds ts).2.1, .int .i64 (taskS t hs ws ds ts).2.2] from rfl, he] at H1
  generalize (taskS t hs ws ds ts).1 = c1 at H1
  generalize (taskS t hs ws ds ts).2.1 = c2 at H1
  replace hb0 := Lib.hid hb0
  replace HK := Lib.hid HK
  replace hT0 := Lib.hid hT0
  replace hw0 := Lib.hid hw0
  clear hR he ok
  go_enter Try.func28, Try.ntmps28
  go_wp2_with fail
  rw [hw0.out]
  refine H1.out.mono ?_
  rintro e w1 ⟨rfl, hb1⟩
  have hw1 := Lib.hid (B_trans hb0.out hb1)
  obtain ⟨q0, q1, q2, q3, q4, q5, q6, q7, q8, q9, q10, q11, q12⟩ := (hT0.out.below hb1).all
  clear hb1
  go_wp2_with fail
  refine (H2.out w1 hw1.out).mono ?_
  rintro e w2 ⟨⟨v, rfl, hrow⟩, hb2⟩
  have hw2 := Lib.hid (B_trans hw1.out hb2)
  have HK2 := Lib.hid (HK.out w2 v (row_base hrow hw1.out.size) hw2.out)
  clear HK q0 q1 q2 q3 q4 q5 q6 q7 q8 q9 q10 q11 q12 hrow hb2
  go_wp2_with fail
  refine HK2.out.mono ?_
  rintro e W3 ⟨g, cap, C, sv, rfl, hg, hC, hSp, hr3, hb3⟩
  go_wp2
  refine bodyPost_ret (v := .tuple #[.slice (some ⟨g, 0, none⟩) (t.dn + 1) cap, sv, .int .i64 0]) (by simp [results, Try.results28, go_sem]) rfl ⟨g, cap, C, sv, rfl, ⟨Nat.le_trans hw2.out.size hg.1, hg.2⟩, hC, hSp, row_base hr3 hw2.out.size, B_trans hw2.out hb3⟩

theorem knownC_full (t : TkA) (hs ws : List T2) (ds : List T4) (ts : List T3) (w : World) (hR : TkR w t hs ws ds ts) (he : (taskS t hs ws ds ts).2.2 = 0) (W : World) (v : Value) (hrow : W.ownsRow w.heap.size 28 2 v t.dn (flat2 (ds.map (strS hs ws)))) (hb : Below w.heap.size w W) :
    Calls Try.prog 71 #[.agg (t.xc v)] W fun e W' => ∃ g cap C sv, e = .returned (.tuple #[.slice (some ⟨g, 0, none⟩) (t.dn + 1) cap, sv]) ∧ (W.heap.size ≤ g ∧ t.dn + 1 ≤ cap) ∧ Ob W' g 28 C ∧ SpC C (levT t hs ws ds ts) ∧ W'.ownsRow W.heap.size 78 2 sv (reachT t hs ws ds ts).struck.length (flat2 (reachT t hs ws ds ts).struck) ∧ Below W.heap.size W W' := by
  have ok := TaskOK.of he
  have hO := RuOK.of ok.r
  have hdn := ok.dn
  have htn := ok.tn
  have hT := hR.t.below hb
  have hst := days_str hO hR.d.len ok.days
  have hte := tests_ok ok.tests
  obtain ⟨sa, sc, rfl, hsl, -, -⟩ := sl2_row hrow
  have hre := reach_ok hO (ss := ds.map (strS hs ws)) (N := t.dn) hsl.len hst ts (morT t ts) (List.range (t.dn + 1)) ⟨orderL ts t.tn, [], (t.lo, t.hi), [], []⟩ (fun m hm => by rw [List.mem_range] at hm; omega) (lv_ok ok.start) (fun p hp => by cases hp)
  refine knownC_any t hs ws sa sc t.dn _ (ds.map (strS hs ws)) (reachT t hs ws ds ts).lev _ W hO (by omega) hsl hst ?_ hre.2.1 (fun W1 hb1 => ?_)
  · rw [show (reachT t hs ws ds ts).lev.length = _ from hre.2.2]; simp
  · exact reachedC_any t hs ws sa sc t.dn (ds.map (strS hs ws)) ts (morT t ts) W1 hO (by omega) (hsl.below hb1) hst (hT.below hb1) htn
      (fun i hi => by have := hte i hi; omega) (fun i hi => by have := hte i hi; unfold morT; omega) (lv_ok ok.start)
theorem levelsC_full (t : TkA) (hs ws : List T2) (ds : List T4) (ts : List T3) (w : World) (hR : TkR w t hs ws ds ts) (he : (taskS t hs ws ds ts).2.2 = 0) :
    Calls Try.prog 28 #[.agg t.cs] w fun e W' => ∃ g cap C sv, e = .returned (.tuple #[.slice (some ⟨g, 0, none⟩) (t.dn + 1) cap, sv, .int .i64 0]) ∧ (w.heap.size ≤ g ∧ t.dn + 1 ≤ cap) ∧ Ob W' g 28 C ∧ SpC C (levT t hs ws ds ts) ∧ W'.ownsRow w.heap.size 78 2 sv (reachT t hs ws ds ts).struck.length (flat2 (reachT t hs ws ds ts).struck) ∧ Below w.heap.size w W' :=
  levelsC_ok t hs ws ds ts _ _ _ w hR he fun W v hrow hb => knownC_full t hs ws ds ts w hR he W v hrow hb
theorem levels4_any (t : TkA) (hs ws : List T2) (ds : List T4) (ts : List T3) (w : World) (hR : TkR w t hs ws ds ts) (he : (taskS t hs ws ds ts).2.2 = 0) : Calls Try.prog 28 #[.agg t.cs] w fun e w' => ∃ lb lc sa sc, e = .returned (.tuple #[.slice (some ⟨lb, 0, none⟩) (t.dn + 1) lc, .slice sa (reachT t hs ws ds ts).struck.length sc, .int .i64 0]) ∧ t.dn + 1 ≤ lc ∧ Sl2 w' (some ⟨lb, 0, none⟩) (t.dn + 1) (levT t hs ws ds ts) ∧ Below w.heap.size w w' := by
  refine (levelsC_full t hs ws ds ts w hR he).mono ?_
  rintro e w' ⟨g, cap, C, sv, rfl, ⟨-, hcap⟩, hC, hS, hr, hb⟩
  obtain ⟨a, c, rfl, -, -, -⟩ := sl2_row hr
  have h := spc_sl2 hC hS
  rw [levT_len he hR.d.len] at h
  exact ⟨_, cap, a, c, rfl, hcap, h, hb⟩
end Go.Proofs.Ytanjkhclhcnnaaa
