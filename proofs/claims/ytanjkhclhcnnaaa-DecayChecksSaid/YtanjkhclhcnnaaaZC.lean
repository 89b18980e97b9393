/- Awake: the calls of the examples. -/
import Derived.Test.YtanjkhclhcnnaaaZB
import Derived.Test.YtanjkhclhcnnaaaYU
import Derived.Test.YtanjkhclhcnnaaaYT
namespace Go.Proofs.Ytanjkhclhcnnaaa
open Go.RowKit Go.Shelf
attribute [local go_sem] Oper.semAt_some

def days0 : List T4 := [day0, day0, day0]
def ts1 : List T3 := [(101, 0, 0)]
def ts2 : List T3 := [(101, 0, 0), (102, 3, 1)]
theorem aw1 (a b d : Nat) (ta : Option Addr) : (taskS (task0 a b d ta 1 1) hs0 ws0 days0 ts1).2.2 = 0 := by kernel_rfl
theorem aw2 (a b d : Nat) (ta : Option Addr) : (taskS (task0 a b d ta 2 2) hs0 ws0 days0 ts2).2.2 = 0 := by kernel_rfl
theorem aw0 (a b d : Nat) (ta : Option Addr) : (taskS (task0 a b d ta 0 0) hs0 ws0 days0 []).2.2 = 0 := by kernel_rfl
theorem al1 (a b d : Nat) (ta : Option Addr) : levT (task0 a b d ta 1 1) hs0 ws0 days0 ts1 = [(900, 989), (910, 999), (920, 1019), (930, 1039)] := by kernel_rfl
theorem as2 (a b d : Nat) (ta : Option Addr) : (reachT (task0 a b d ta 2 2) hs0 ws0 days0 ts2).struck = [(1, 0)] := by kernel_rfl
theorem ax0 (a b d : Nat) (ta : Option Addr) : lostP (task0 a b d ta 0 0) (levT (task0 a b d ta 0 0) hs0 ws0 days0 []) = (102, -1) := by kernel_rfl
theorem ag0 (a b : Nat) : gradeS (rule0 a b) hs0 ws0 (-1) = (0, 7) := by kernel_rfl
theorem spc_sl2 {W : World} {g : Nat} {T : TypeId} {C : Array Value} {L : List T2} (h : Ob W g T C) (hs : SpC C L) : Sl2 W (some ⟨g, 0, none⟩) L.length L :=
  ⟨rfl, fun _ => ⟨g, 0, rfl, h.lt, fun i hi => by
    have e := hs.c i hi
    rw [Nat.zero_add]
    exact ⟨(h.cell _).trans e.1, (h.cell _).trans e.2⟩⟩⟩
theorem sl3_one (W : World) (x : T3) (T : TypeId) : Sl3 (W.alloc (.cells #[.int .i64 x.1, .int .i64 x.2.1, .int .i64 x.2.2] T)) (some ⟨W.heap.size, 0, none⟩) 1 [x] :=
  ⟨rfl, fun _ => ⟨W.heap.size, 0, rfl, by simp, fun i hi => by
    have h := Ob.new W #[.int .i64 x.1, .int .i64 x.2.1, .int .i64 x.2.2] T
    obtain rfl : i = 0 := by omega
    exact ⟨h.cell 0, h.cell 1, h.cell 2⟩⟩⟩
theorem sl3_two (W : World) (x y : T3) (T : TypeId) : Sl3 (W.alloc (.cells #[.int .i64 x.1, .int .i64 x.2.1, .int .i64 x.2.2, .int .i64 y.1, .int .i64 y.2.1, .int .i64 y.2.2] T)) (some ⟨W.heap.size, 0, none⟩) 2 [x, y] :=
  ⟨rfl, fun _ => ⟨W.heap.size, 0, rfl, by simp, fun i hi => by
    have h := Ob.new W #[.int .i64 x.1, .int .i64 x.2.1, .int .i64 x.2.2, .int .i64 y.1, .int .i64 y.2.1, .int .i64 y.2.2] T
    rcases (show i = 0 ∨ i = 1 by omega) with rfl | rfl
    · exact ⟨h.cell 0, h.cell 1, h.cell 2⟩
    · exact ⟨h.cell 3, h.cell 4, h.cell 5⟩⟩⟩
theorem sl3_nil (W : World) : Sl3 W none 0 [] := ⟨rfl, fun h => by omega⟩
theorem wp_region_held' {P : Program} {ops : Array Oper} {Q : Exit → Act → World → Prop} {S : World → Prop} {id : Nat} {a : Act} {w : World} (hm : P.follows .mixedOrders = true) (hS : S w.drew)
    (h : S w.drew → wpAnyH P .any ops (Only Q) S ops.size (Array.replicate ops.size false) a w.drew) : (Code.region id ops true).wp P Q a w :=
  wp_mono (wp_region_held_drew hm hS h) Only.imp

set_option maxRecDepth 100000 in
set_option maxHeartbeats 8000000 in
theorem awake_any (w : World) : Calls Try.prog 19 #[] w fun e w' => e = .returned (.bool true) ∧ Below w.heap.size w w' := by
  have hb0 := Lib.hid (B_alloc (Below.refl w.heap.size w) (.cells #[.int .i64 101, .int .i64 0, .int .i64 0] 64))
  go_enter Try.func19, Try.ntmps19
  go_wp2_with fail
  refine (task_any (some ⟨w.heap.size, 0, none⟩) 1 1 ts1 _ (sl3_one w (101, 0, 0) 64) (by omega)).mono ?_
  rintro e w1 ⟨a1, b1, d1, rfl, hR1, hb1⟩
  go_wp2_with fail
  refine (levels_full _ hs0 ws0 days0 ts1 w1 hR1 (aw1 _ _ _ _)).mono ?_
  rintro e w2 ⟨g1, cap1, C1, sv1, rfl, -, hC1, hS1, -, hb2⟩
  rw [al1] at hS1
  have hA := Lib.hid (spc_sl2 hC1 hS1)
  have hw2 := Lib.hid (B_trans (B_trans hb0.out hb1) hb2)
  clear hC1 hS1 hR1 hb1 hb2 hb0
  go_wp2_with fail
  refine (task_any (some ⟨w2.heap.size, 0, none⟩) 2 2 ts2 _ (sl3_two w2 (101, 0, 0) (102, 3, 1) 64) (by omega)).mono ?_
  rintro e w3 ⟨a3, b3, d3, rfl, hR3, hb3⟩
  go_wp2_with fail
  refine (levels_full _ hs0 ws0 days0 ts2 w3 hR3 (aw2 _ _ _ _)).mono ?_
  rintro e w4 ⟨g4, cap4, C4, sv4, rfl, -, -, -, hrow4, hb4⟩
  rw [as2] at hrow4
  obtain ⟨sa4, sc4, rfl, hB', -, -⟩ := sl2_row hrow4
  have hB := Lib.hid hB'
  have hb24 := B_trans (B_trans (B_alloc (Below.refl w2.heap.size w2) _) hb3) hb4
  have hw4 := Lib.hid (B_trans hw2.out hb24)
  replace hA := Lib.hid (hA.out.below hb24)
  clear hB' hrow4 hR3 hb3 hb4 hb24 hw2
  go_wp2_with fail
  refine (task_any none 0 0 [] w4 (sl3_nil _) (by omega)).mono ?_
  rintro e w5 ⟨a5, b5, d5, rfl, hR5, hb5⟩
  go_wp2_with fail
  refine (lost_full _ hs0 ws0 days0 [] w5 hR5 (aw0 _ _ _ _)).mono ?_
  rintro e w6 ⟨rfl, hb6⟩
  rw [ax0]
  have hb46 := B_trans hb5 hb6
  have hb47 := B_alloc hb46 (.cells #[.int .i64 102, .int .i64 (-1)] 28)
  have hw7 := Lib.hid (B_trans hw4.out hb47)
  replace hA := Lib.hid (hA.out.below hb47)
  replace hB := Lib.hid (hB.out.below hb47)
  have hx := Lib.hid (Ob.new w6 #[.int .i64 102, .int .i64 (-1)] 28)
  clear hR5 hb5 hb6 hb46 hb47 hw4
  go_wp2_with fail
  refine (rule_any _).mono ?_
  rintro e w8 ⟨a8, b8, rfl, -, -, hRu, hb8⟩
  go_wp2_with fail
  refine (grade_any _ hs0 ws0 (-1) w8 hRu).mono ?_
  rintro e w9 ⟨rfl, hb9⟩
  rw [ag0]
  have hb79 := B_trans hb8 hb9
  have hw9 := Lib.hid (B_trans hw7.out hb79)
  replace hA := Lib.hid (hA.out.below hb79)
  replace hB := Lib.hid (hB.out.below hb79)
  have hx9 := hx.out.below hb79
  have HX := Lib.hid (fun (W' : World) (hh : Below w9.heap.size w9 W') => And.intro ((hx9.below hh).cell 0) ((hx9.below hh).cell 1))
  simp only [List.getElem?_toArray, List.getElem?_cons_zero, List.getElem?_cons_succ] at HX
  clear hx hx9 hRu hb8 hb9 hb79 hw7
  go_upto_region 5 with fail
  -- REGION5
  refine wp_region_held' (S := fun W' => Below w9.heap.size w9 W') (by kernel_rfl) ((Below.refl _ w9).drew) (fun hHeld => ?_)
  refine wpAnyH_take2 (i := 0) (t := 38) (v := ?_) rfl rfl (by kernel_rfl) (by kernel_rfl) (by kernel_rfl) (fun _ _ _ h => Only.not_panic h) (Or.inl ⟨by kernel_rfl, fun W hW => ?_⟩) (by assumption) ?_
  rotate_left
  · have hW2 := hW
    have hX := HX.out W hW2
    obtain ⟨x0, x1⟩ := hX
    clear hW hW2
    go_simp
    try with_reducible rfl
  try simp only [Act.put, List.setIfInBounds_toArray, List.set_cons_zero, List.set_cons_succ]
  refine wpAnyH_take2 (i := 1) (t := 39) (v := .bool true) rfl rfl (by kernel_rfl) (by kernel_rfl) (by kernel_rfl) (fun _ _ _ h => Only.not_panic h) (Or.inl ⟨by kernel_rfl, fun W hW => ?_⟩) (by assumption) ?_
  · have hW2 := hW
    have hX := HX.out W hW2
    obtain ⟨x0, x1⟩ := hX
    clear hW hW2
    go_simp
    try with_reducible rfl
  try simp only [Act.put, List.setIfInBounds_toArray, List.set_cons_zero, List.set_cons_succ]
  refine wpAnyH_take2 (i := 2) (t := 40) (v := .bool true) rfl rfl (by kernel_rfl) (by kernel_rfl) (by kernel_rfl) (fun _ _ _ h => Only.not_panic h) (Or.inl ⟨by kernel_rfl, fun W hW => ?_⟩) (by assumption) ?_
  · have hW2 := hW
    have hX := HX.out W hW2
    obtain ⟨x0, x1⟩ := hX
    clear hW hW2
    go_simp
    try with_reducible rfl
  try simp only [Act.put, List.setIfInBounds_toArray, List.set_cons_zero, List.set_cons_succ]
  refine wpAnyH_take2 (i := 3) (t := 41) (v := ?_) rfl rfl (by kernel_rfl) (by kernel_rfl) (by kernel_rfl) (fun _ _ _ h => Only.not_panic h) (Or.inl ⟨by kernel_rfl, fun W hW => ?_⟩) (by assumption) ?_
  rotate_left
  · have hW2 := hW
    have hX := HX.out W hW2
    obtain ⟨x0, x1⟩ := hX
    clear hW hW2
    go_simp
    try with_reducible rfl
  try simp only [Act.put, List.setIfInBounds_toArray, List.set_cons_zero, List.set_cons_succ]
  refine wpAnyH_take2 (i := 4) (t := 42) (v := .bool true) rfl rfl (by kernel_rfl) (by kernel_rfl) (by kernel_rfl) (fun _ _ _ h => Only.not_panic h) (Or.inl ⟨by kernel_rfl, fun W hW => ?_⟩) (by assumption) ?_
  · have hW2 := hW
    have hX := HX.out W hW2
    obtain ⟨x0, x1⟩ := hX
    clear hW hW2
    go_simp
    try with_reducible rfl
  try simp only [Act.put, List.setIfInBounds_toArray, List.set_cons_zero, List.set_cons_succ]
  refine wpAnyH_take2 (i := 5) (t := 43) (v := .bool true) rfl rfl (by kernel_rfl) (by kernel_rfl) (by kernel_rfl) (fun _ _ _ h => Only.not_panic h) (Or.inl ⟨by kernel_rfl, fun W hW => ?_⟩) (by assumption) ?_
  · have hW2 := hW
    have hX := HX.out W hW2
    obtain ⟨x0, x1⟩ := hX
    clear hW hW2
    go_simp
    try with_reducible rfl
  try simp only [Act.put, List.setIfInBounds_toArray, List.set_cons_zero, List.set_cons_succ]
  refine wpAnyH_take2 (i := 6) (t := 44) (v := .bool true) rfl rfl (by kernel_rfl) (by kernel_rfl) (by kernel_rfl) (fun _ _ _ h => Only.not_panic h) (Or.inl ⟨by kernel_rfl, fun W hW => ?_⟩) (by assumption) ?_
  · have hW2 := hW
    have hX := HX.out W hW2
    obtain ⟨x0, x1⟩ := hX
    clear hW hW2
    go_simp
    try with_reducible rfl
  try simp only [Act.put, List.setIfInBounds_toArray, List.set_cons_zero, List.set_cons_succ]
  refine wpAnyH_take2 (i := 7) (t := 45) (v := ?_) rfl rfl (by kernel_rfl) (by kernel_rfl) (by kernel_rfl) (fun _ _ _ h => Only.not_panic h) (Or.inl ⟨by kernel_rfl, fun W hW => ?_⟩) (by assumption) ?_
  rotate_left
  · have hW2 := hW
    have hX := HX.out W hW2
    obtain ⟨x0, x1⟩ := hX
    clear hW hW2
    go_simp
    try with_reducible rfl
  try simp only [Act.put, List.setIfInBounds_toArray, List.set_cons_zero, List.set_cons_succ]
  refine wpAnyH_take2 (i := 8) (t := 46) (v := .bool true) rfl rfl (by kernel_rfl) (by kernel_rfl) (by kernel_rfl) (fun _ _ _ h => Only.not_panic h) (Or.inl ⟨by kernel_rfl, fun W hW => ?_⟩) (by assumption) ?_
  · have hW2 := hW
    have hX := HX.out W hW2
    obtain ⟨x0, x1⟩ := hX
    clear hW hW2
    go_simp
    try with_reducible rfl
  try simp only [Act.put, List.setIfInBounds_toArray, List.set_cons_zero, List.set_cons_succ]
  refine wpAnyH_take2 (i := 9) (t := 47) (v := .bool true) rfl rfl (by kernel_rfl) (by kernel_rfl) (by kernel_rfl) (fun _ _ _ h => Only.not_panic h) (Or.inl ⟨by kernel_rfl, fun W hW => ?_⟩) (by assumption) ?_
  · have hW2 := hW
    have hX := HX.out W hW2
    obtain ⟨x0, x1⟩ := hX
    clear hW hW2
    go_simp
    try with_reducible rfl
  try simp only [Act.put, List.setIfInBounds_toArray, List.set_cons_zero, List.set_cons_succ]
  refine wpAnyH_take2 (i := 10) (t := 48) (v := .bool true) rfl rfl (by kernel_rfl) (by kernel_rfl) (by kernel_rfl) (fun _ _ _ h => Only.not_panic h) (Or.inl ⟨by kernel_rfl, fun W hW => ?_⟩) (by assumption) ?_
  · have hW2 := hW
    have hX := HX.out W hW2
    obtain ⟨x0, x1⟩ := hX
    clear hW hW2
    go_simp
    try with_reducible rfl
  try simp only [Act.put, List.setIfInBounds_toArray, List.set_cons_zero, List.set_cons_succ]
  refine wpAnyH_take2 (i := 11) (t := 49) (v := ?_) rfl rfl (by kernel_rfl) (by kernel_rfl) (by kernel_rfl) (fun _ _ _ h => Only.not_panic h) (Or.inl ⟨by kernel_rfl, fun W hW => ?_⟩) (by assumption) ?_
  rotate_left
  · have hW2 := hW
    have hX := HX.out W hW2
    obtain ⟨x0, x1⟩ := hX
    clear hW hW2
    go_simp
    try with_reducible rfl
  try simp only [Act.put, List.setIfInBounds_toArray, List.set_cons_zero, List.set_cons_succ]
  refine wpAnyH_take2 (i := 12) (t := 50) (v := .bool true) rfl rfl (by kernel_rfl) (by kernel_rfl) (by kernel_rfl) (fun _ _ _ h => Only.not_panic h) (Or.inl ⟨by kernel_rfl, fun W hW => ?_⟩) (by assumption) ?_
  · have hW2 := hW
    have hX := HX.out W hW2
    obtain ⟨x0, x1⟩ := hX
    clear hW hW2
    go_simp
    try with_reducible rfl
  try simp only [Act.put, List.setIfInBounds_toArray, List.set_cons_zero, List.set_cons_succ]
  refine wpAnyH_take2 (i := 13) (t := 51) (v := .bool true) rfl rfl (by kernel_rfl) (by kernel_rfl) (by kernel_rfl) (fun _ _ _ h => Only.not_panic h) (Or.inl ⟨by kernel_rfl, fun W hW => ?_⟩) (by assumption) ?_
  · have hW2 := hW
    have hX := HX.out W hW2
    obtain ⟨x0, x1⟩ := hX
    clear hW hW2
    go_simp
    try with_reducible rfl
  try simp only [Act.put, List.setIfInBounds_toArray, List.set_cons_zero, List.set_cons_succ]
  refine wpAnyH_take2 (i := 14) (t := 52) (v := .bool true) rfl rfl (by kernel_rfl) (by kernel_rfl) (by kernel_rfl) (fun _ _ _ h => Only.not_panic h) (Or.inl ⟨by kernel_rfl, fun W hW => ?_⟩) (by assumption) ?_
  · have hW2 := hW
    have hX := HX.out W hW2
    obtain ⟨x0, x1⟩ := hX
    clear hW hW2
    go_simp
    try with_reducible rfl
  try simp only [Act.put, List.setIfInBounds_toArray, List.set_cons_zero, List.set_cons_succ]
  refine wpAnyH_take2 (i := 15) (t := 53) (v := ?_) rfl rfl (by kernel_rfl) (by kernel_rfl) (by kernel_rfl) (fun _ _ _ h => Only.not_panic h) (Or.inl ⟨by kernel_rfl, fun W hW => ?_⟩) (by assumption) ?_
  rotate_left
  · have hW2 := hW
    have hX := HX.out W hW2
    obtain ⟨x0, x1⟩ := hX
    clear hW hW2
    go_simp
    try with_reducible rfl
  try simp only [Act.put, List.setIfInBounds_toArray, List.set_cons_zero, List.set_cons_succ]
  refine wpAnyH_ready (rs := [16]) (by kernel_rfl) (by simp) ?_
  refine AllReadyH.cons_want rfl (by kernel_rfl) (fun K hK => ?_) ?_
  · go_simp
    refine (span_any _ _ _).mono ?_
    rintro e w16 ⟨rfl, hb16⟩
    try simp only []
    refine hK.out _ _ ?_ (fun hHeld => ?_)
    · exact B_trans hHeld hb16
    clear hK K
    try simp only [Act.put, List.setIfInBounds_toArray, List.set_cons_zero, List.set_cons_succ]
    refine wpAnyH_ready (rs := [17]) (by kernel_rfl) (by simp) ?_
    refine AllReadyH.cons_want rfl (by kernel_rfl) (fun K hK => ?_) ?_
    · go_simp
      refine (span_any _ _ _).mono ?_
      rintro e w17 ⟨rfl, hb17⟩
      try simp only []
      refine hK.out _ _ ?_ (fun hHeld => ?_)
      · exact B_trans hHeld hb17
      clear hK K
      try simp only [Act.put, List.setIfInBounds_toArray, List.set_cons_zero, List.set_cons_succ]
      refine wpAnyH_ready (rs := [18]) (by kernel_rfl) (by simp) ?_
      refine AllReadyH.cons_want rfl (by kernel_rfl) (fun K hK => ?_) ?_
      · go_simp
        refine (span_any _ _ _).mono ?_
        rintro e w18 ⟨rfl, hb18⟩
        try simp only []
        refine hK.out _ _ ?_ (fun hHeld => ?_)
        · exact B_trans hHeld hb18
        clear hK K
        try simp only [Act.put, List.setIfInBounds_toArray, List.set_cons_zero, List.set_cons_succ]
        refine wpAnyH_ready (rs := [19]) (by kernel_rfl) (by simp) ?_
        refine AllReadyH.cons_want rfl (by kernel_rfl) (fun K hK => ?_) ?_
        · go_simp
          refine (span_any _ _ _).mono ?_
          rintro e w19 ⟨rfl, hb19⟩
          try simp only []
          refine hK.out _ _ ?_ (fun hHeld => ?_)
          · exact B_trans hHeld hb19
          clear hK K
          try simp only [Act.put, List.setIfInBounds_toArray, List.set_cons_zero, List.set_cons_succ]
          refine wpAnyH_ready (rs := [20]) (by kernel_rfl) (by simp) ?_
          refine AllReadyH.cons_want rfl (by kernel_rfl) (fun K hK => ?_) ?_
          · go_simp
            have o20 := Lib.hid (show Sl2 (w19.alloc (.cells #[.int .i64 900, .int .i64 989, .int .i64 910, .int .i64 999, .int .i64 920, .int .i64 1019, .int .i64 930, .int .i64 1039] 28)) (some ⟨w19.heap.size, 0, none⟩) 4 [(900, 989), (910, 999), (920, 1019), (930, 1039)] from ob_sl2 (L := [(900, 989), (910, 999), (920, 1019), (930, 1039)]) (Ob.new w19 _ _))
            refine hK.out _ _ ?_ (fun hHeld => ?_)
            · exact B_alloc hHeld _
            clear hK K
            try simp only [Act.put, List.setIfInBounds_toArray, List.set_cons_zero, List.set_cons_succ]
            refine wpAnyH_ready (rs := [21]) (by kernel_rfl) (by simp) ?_
            refine AllReadyH.cons_want rfl (by kernel_rfl) (fun K hK => ?_) ?_
            · go_simp
              refine (spans_any [(900, 989), (910, 999), (920, 1019), (930, 1039)] [(900, 989), (910, 999), (920, 1019), (930, 1039)] _ _ _ _ _ _ _ (hA.out.below hHeld) o20.out (by show 4 ≤ _; omega) (by omega)).mono ?_
              rintro e w21 ⟨rfl, hb21⟩
              rw [decide_eq_true rfl]
              try simp only []
              refine hK.out _ _ ?_ (fun hHeld => ?_)
              · exact B_trans hHeld hb21
              clear hK K
              try simp only [Act.put, List.setIfInBounds_toArray, List.set_cons_zero, List.set_cons_succ]
              refine wpAnyH_take2 (i := 22) (t := 60) (v := .bool true) rfl rfl (by kernel_rfl) (by kernel_rfl) (by kernel_rfl) (fun _ _ _ h => Only.not_panic h) (Or.inl ⟨by kernel_rfl, fun W hW => ?_⟩) (by assumption) ?_
              · have hW2 := hW
                have hX := HX.out W hW2
                obtain ⟨x0, x1⟩ := hX
                clear hW hW2
                go_simp
                try with_reducible rfl
              try simp only [Act.put, List.setIfInBounds_toArray, List.set_cons_zero, List.set_cons_succ]
              refine wpAnyH_take2 (i := 23) (t := 61) (v := .bool true) rfl rfl (by kernel_rfl) (by kernel_rfl) (by kernel_rfl) (fun _ _ _ h => Only.not_panic h) (Or.inl ⟨by kernel_rfl, fun W hW => ?_⟩) (by assumption) ?_
              · have hW2 := hW
                have hX := HX.out W hW2
                obtain ⟨x0, x1⟩ := hX
                clear hW hW2
                go_simp
                try with_reducible rfl
              try simp only [Act.put, List.setIfInBounds_toArray, List.set_cons_zero, List.set_cons_succ]
              refine wpAnyH_take2 (i := 24) (t := 62) (v := ?_) rfl rfl (by kernel_rfl) (by kernel_rfl) (by kernel_rfl) (fun _ _ _ h => Only.not_panic h) (Or.inl ⟨by kernel_rfl, fun W hW => ?_⟩) (by assumption) ?_
              rotate_left
              · have hW2 := hW
                have hX := HX.out W hW2
                obtain ⟨x0, x1⟩ := hX
                clear hW hW2
                go_simp
                try with_reducible rfl
              try simp only [Act.put, List.setIfInBounds_toArray, List.set_cons_zero, List.set_cons_succ]
              refine wpAnyH_take2 (i := 25) (t := 63) (v := ?_) rfl rfl (by kernel_rfl) (by kernel_rfl) (by kernel_rfl) (fun _ _ _ h => Only.not_panic h) (Or.inl ⟨by kernel_rfl, fun W hW => ?_⟩) (by assumption) ?_
              rotate_left
              · have hW2 := hW
                have hX := HX.out W hW2
                obtain ⟨x0, x1⟩ := hX
                clear hW hW2
                go_simp
                try with_reducible rfl
              try simp only [Act.put, List.setIfInBounds_toArray, List.set_cons_zero, List.set_cons_succ]
              refine wpAnyH_ready (rs := [26]) (by kernel_rfl) (by simp) ?_
              refine AllReadyH.cons_want rfl (by kernel_rfl) (fun K hK => ?_) ?_
              · go_simp
                have o26 := Lib.hid (show Sl2 (w21.alloc (.cells #[.int .i64 1, .int .i64 0] 78)) (some ⟨w21.heap.size, 0, none⟩) 1 [(1, 0)] from ob_sl2 (L := [(1, 0)]) (Ob.new w21 _ _))
                refine hK.out _ _ ?_ (fun hHeld => ?_)
                · exact B_alloc hHeld _
                clear hK K
                try simp only [Act.put, List.setIfInBounds_toArray, List.set_cons_zero, List.set_cons_succ]
                refine wpAnyH_ready (rs := [27]) (by kernel_rfl) (by simp) ?_
                refine AllReadyH.cons_want rfl (by kernel_rfl) (fun K hK => ?_) ?_
                · go_simp
                  refine (strikes_any [(1, 0)] [(1, 0)] _ _ _ _ _ _ _ (hB.out.below hHeld) o26.out (by show 1 ≤ _; omega) (by omega)).mono ?_
                  rintro e w27 ⟨rfl, hb27⟩
                  rw [decide_eq_true rfl]
                  try simp only []
                  refine hK.out _ _ ?_ (fun hHeld => ?_)
                  · exact B_trans hHeld hb27
                  clear hK K
                  try simp only [Act.put, List.setIfInBounds_toArray, List.set_cons_zero, List.set_cons_succ]
                  refine wpAnyH_take2 (i := 28) (t := 66) (v := .bool true) rfl rfl (by kernel_rfl) (by kernel_rfl) (by kernel_rfl) (fun _ _ _ h => Only.not_panic h) (Or.inl ⟨by kernel_rfl, fun W hW => ?_⟩) (by assumption) ?_
                  · have hW2 := hW
                    have hX := HX.out W hW2
                    obtain ⟨x0, x1⟩ := hX
                    clear hW hW2
                    go_simp
                    try with_reducible rfl
                  try simp only [Act.put, List.setIfInBounds_toArray, List.set_cons_zero, List.set_cons_succ]
                  refine wpAnyH_take2 (i := 29) (t := 67) (v := .bool true) rfl rfl (by kernel_rfl) (by kernel_rfl) (by kernel_rfl) (fun _ _ _ h => Only.not_panic h) (Or.inl ⟨by kernel_rfl, fun W hW => ?_⟩) (by assumption) ?_
                  · have hW2 := hW
                    have hX := HX.out W hW2
                    obtain ⟨x0, x1⟩ := hX
                    clear hW hW2
                    go_simp
                    try with_reducible rfl
                  try simp only [Act.put, List.setIfInBounds_toArray, List.set_cons_zero, List.set_cons_succ]
                  refine wpAnyH_take2 (i := 30) (t := 68) (v := ?_) rfl rfl (by kernel_rfl) (by kernel_rfl) (by kernel_rfl) (fun _ _ _ h => Only.not_panic h) (Or.inl ⟨by kernel_rfl, fun W hW => ?_⟩) (by assumption) ?_
                  rotate_left
                  · have hW2 := hW
                    have hX := HX.out W hW2
                    obtain ⟨x0, x1⟩ := hX
                    clear hW hW2
                    go_simp
                    try with_reducible rfl
                  try simp only [Act.put, List.setIfInBounds_toArray, List.set_cons_zero, List.set_cons_succ]
                  refine wpAnyH_ready (rs := [31]) (by kernel_rfl) (by simp) ?_
                  refine AllReadyH.cons_want rfl (by kernel_rfl) (fun K hK => ?_) ?_
                  · go_simp
                    refine (span_any _ _ _).mono ?_
                    rintro e w31 ⟨rfl, hb31⟩
                    try simp only []
                    refine hK.out _ _ ?_ (fun hHeld => ?_)
                    · exact B_trans hHeld hb31
                    clear hK K
                    try simp only [Act.put, List.setIfInBounds_toArray, List.set_cons_zero, List.set_cons_succ]
                    refine wpAnyH_take2 (i := 32) (t := 70) (v := .bool true) rfl rfl (by kernel_rfl) (by kernel_rfl) (by kernel_rfl) (fun _ _ _ h => Only.not_panic h) (Or.inl ⟨by kernel_rfl, fun W hW => ?_⟩) (by assumption) ?_
                    · have hW2 := hW
                      have hX := HX.out W hW2
                      obtain ⟨x0, x1⟩ := hX
                      clear hW hW2
                      go_simp
                      try with_reducible rfl
                    try simp only [Act.put, List.setIfInBounds_toArray, List.set_cons_zero, List.set_cons_succ]
                    refine wpAnyH_take2 (i := 33) (t := 71) (v := .bool true) rfl rfl (by kernel_rfl) (by kernel_rfl) (by kernel_rfl) (fun _ _ _ h => Only.not_panic h) (Or.inl ⟨by kernel_rfl, fun W hW => ?_⟩) (by assumption) ?_
                    · have hW2 := hW
                      have hX := HX.out W hW2
                      obtain ⟨x0, x1⟩ := hX
                      clear hW hW2
                      go_simp
                      try with_reducible rfl
                    try simp only [Act.put, List.setIfInBounds_toArray, List.set_cons_zero, List.set_cons_succ]
                    refine wpAnyH_take2 (i := 34) (t := 0) (v := ?_) rfl rfl (by kernel_rfl) (by kernel_rfl) (by kernel_rfl) (fun _ _ _ h => Only.not_panic h) (Or.inl ⟨by kernel_rfl, fun W hW => ?_⟩) (by assumption) ?_
                    rotate_left
                    · have hW2 := hW
                      have hX := HX.out W hW2
                      obtain ⟨x0, x1⟩ := hX
                      clear hW hW2
                      go_simp
                      try with_reducible rfl
                    try simp only [Act.put, List.setIfInBounds_toArray, List.set_cons_zero]
                    refine wpAnyH_done (by kernel_rfl) (Only.mk ?_) _
                    go_wp2
                    refine bodyPost_ret (v := .bool true) (by simp [results, Try.results19, go_sem]) rfl ⟨rfl, B_trans hw9.out hHeld⟩
                  exact AllReadyH.nil
                exact AllReadyH.nil
              exact AllReadyH.nil
            exact AllReadyH.nil
          exact AllReadyH.nil
        exact AllReadyH.nil
      exact AllReadyH.nil
    exact AllReadyH.nil
  exact AllReadyH.nil
end Go.Proofs.Ytanjkhclhcnnaaa
