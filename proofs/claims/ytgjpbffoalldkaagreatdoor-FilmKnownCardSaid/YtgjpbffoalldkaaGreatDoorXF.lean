/- The first statement of film.Write that draws its order: its operations. -/
import Derived.Test.YtgjpbffoalldkaaGreatDoorWN
import Derived.Test.YtgjpbffoalldkaaGreatDoorXB
import Derived.Test.YtgjpbffoalldkaaGreatDoorWF
import Derived.Test.YtgjpbffoalldkaaGreatDoorXC
import Derived.Deep.RegionHeld3
namespace Go.Proofs.YtgjpbffoalldkaaGreatDoor
open Go.RowKit

/-- One number behind a word. -/
theorem num1 (word : List UInt8) (b c : Nat) (x : Int) (w : World) (G : Glob w) (hb : b < w.heap.size) (h0 : w.cell? ⟨b, 0, none⟩ = some (.int .i64 x)) (x0 : -9223372036854775808 ≤ x) (x1 : x ≤ 9223372036854775807) (hw : word.length ≤ 20) :
    Calls Tryz.prog 73 #[str word, .slice (some ⟨b, 0, none⟩) 1 c] w fun e w' => e = .returned (.string ⟨(word ++ 32 :: Lib.itoa x).toArray⟩) ∧ Below w.heap.size w w' := by
  refine (numbers_any word _ 1 c [x] w G (by omega) (by omega) ⟨rfl, fun _ => ⟨b, 0, rfl, hb, fun i hi => ?_⟩⟩ fun i hi => ?_).mono ?_
  · obtain rfl : i = 0 := by omega
    exact h0
  · obtain rfl : i = 0 := by omega
    exact ⟨x0, x1⟩
  · rintro e w' ⟨rfl, h⟩
    exact ⟨rfl, h⟩
/-- Two numbers behind a word. -/
theorem num2 (word : List UInt8) (b c : Nat) (x y : Int) (w : World) (G : Glob w) (hb : b < w.heap.size) (h0 : w.cell? ⟨b, 0, none⟩ = some (.int .i64 x)) (h1 : w.cell? ⟨b, 1, none⟩ = some (.int .i64 y)) (x0 : -9223372036854775808 ≤ x) (x1 : x ≤ 9223372036854775807) (y0 : -9223372036854775808 ≤ y) (y1 : y ≤ 9223372036854775807) (hw : word.length ≤ 20) :
    Calls Tryz.prog 73 #[str word, .slice (some ⟨b, 0, none⟩) 2 c] w fun e w' => e = .returned (.string ⟨(word ++ 32 :: Lib.itoa x ++ 32 :: Lib.itoa y).toArray⟩) ∧ Below w.heap.size w w' := by
  refine (numbers_any word _ 2 c [x, y] w G (by omega) (by omega) ⟨rfl, fun _ => ⟨b, 0, rfl, hb, fun i hi => ?_⟩⟩ fun i hi => ?_).mono ?_
  · obtain rfl | rfl : i = 0 ∨ i = 1 := by omega
    · exact h0
    · exact h1
  · obtain rfl | rfl : i = 0 ∨ i = 1 := by omega
    · exact ⟨x0, x1⟩
    · exact ⟨y0, y1⟩
  · rintro e w' ⟨rfl, h⟩
    exact ⟨rfl, h⟩
/-- Three numbers behind a word. -/
theorem num3 (word : List UInt8) (b c : Nat) (x y z : Int) (w : World) (G : Glob w) (hb : b < w.heap.size) (h0 : w.cell? ⟨b, 0, none⟩ = some (.int .i64 x)) (h1 : w.cell? ⟨b, 1, none⟩ = some (.int .i64 y)) (h2 : w.cell? ⟨b, 2, none⟩ = some (.int .i64 z)) (x0 : -9223372036854775808 ≤ x) (x1 : x ≤ 9223372036854775807) (y0 : -9223372036854775808 ≤ y) (y1 : y ≤ 9223372036854775807) (z0 : -9223372036854775808 ≤ z) (z1 : z ≤ 9223372036854775807) (hw : word.length ≤ 20) :
    Calls Tryz.prog 73 #[str word, .slice (some ⟨b, 0, none⟩) 3 c] w fun e w' => e = .returned (.string ⟨(word ++ 32 :: Lib.itoa x ++ 32 :: Lib.itoa y ++ 32 :: Lib.itoa z).toArray⟩) ∧ Below w.heap.size w w' := by
  refine (numbers_any word _ 3 c [x, y, z] w G (by omega) (by omega) ⟨rfl, fun _ => ⟨b, 0, rfl, hb, fun i hi => ?_⟩⟩ fun i hi => ?_).mono ?_
  · obtain rfl | rfl | rfl : i = 0 ∨ i = 1 ∨ i = 2 := by omega
    · exact h0
    · exact h1
    · exact h2
  · obtain rfl | rfl | rfl : i = 0 ∨ i = 1 ∨ i = 2 := by omega
    · exact ⟨x0, x1⟩
    · exact ⟨y0, y1⟩
    · exact ⟨z0, z1⟩
  · rintro e w' ⟨rfl, h⟩
    exact ⟨rfl, h⟩

theorem Glob.base {w : World} (G : Glob w) {b : Int} (h0 : 1 ≤ b) (h1 : b ≤ 3) : ∃ s : ByteArray, s.data.toList = baseW b ∧ s.size ≤ 9 ∧ w.cell? ⟨0, (b - 1).toNat, none⟩ = some (.string s) := by
  obtain rfl | rfl | rfl : b = 1 ∨ b = 2 ∨ b = 3 := by omega
  · exact ⟨_, rfl, by decide, G.b0⟩
  · exact ⟨_, rfl, by decide, G.b1⟩
  · exact ⟨_, rfl, by decide, G.b2⟩

theorem ex_hid {α : Type} (x : α) : ∃ s : α, Hid (s = x) := ⟨x, rfl⟩
/-- What a '+' of strings yields, under a name. -/
theorem cat_fact (a b : ByteArray) (na nb : Nat) (ha : a.size ≤ na) (hb : b.size ≤ nb) (h : na + nb ≤ 1000) : ∃ t : ByteArray, t.size ≤ na + nb ∧ Hid (t = a ++ b) ∧ ∀ W : World, (Op.stringOp .add a b).run Tryz.prog W = .ok (.string t) W :=
  ⟨a ++ b, by rw [ByteArray.size_append]; omega, rfl, fun W => run_string_add_sum W a b (by omega)⟩
theorem nameB_len {l : ByteArray} (h : nameB l.data.toList = true) : l.size ≤ 24 := by
  unfold nameB at h
  rw [Bool.and_eq_true, Bool.and_eq_true] at h
  have h1 := h.1.1
  unfold inB at h1
  rw [Bool.and_eq_true, decide_eq_true_eq, decide_eq_true_eq] at h1
  have h2 : l.size = l.data.toList.length := rfl
  omega
theorem info9 : (Tryz.prog.info? 9).map (fun i => (i.zero, i.size, i.bytes)) = some (some (.string ⟨#[]⟩), 1, 16) := by kernel_rfl

/-- What every world of the first statement keeps. -/
structure HeadS (B : Nat) (w : World) (r : RA) (k : Nat) (bw : ByteArray) (w' : World) : Prop where
  c0 : w'.cell? ⟨B, 0, none⟩ = some (.string r.nm)
  c1 : w'.cell? ⟨B, 1, none⟩ = some (.int .i64 r.g)
  c2 : w'.cell? ⟨B, 2, none⟩ = some (.int .i64 r.b)
  c3 : w'.cell? ⟨B, 3, none⟩ = some (.int .i64 r.f)
  c4 : w'.cell? ⟨B, 4, none⟩ = some (.int .i64 r.lo)
  c5 : w'.cell? ⟨B, 5, none⟩ = some (.int .i64 r.hi)
  c6 : w'.cell? ⟨B, 6, none⟩ = some (.int .i64 r.k)
  cb : w'.cell? ⟨0, k, none⟩ = some (.string bw)
  box : ∀ i, w'.cell? ⟨B, i, none⟩ = r.cs[i]?
  hz : B < w'.heap.size
  G : Glob w'
  hB : Below (B + 1) w w'
theorem HeadS.below {B : Nat} {w : World} {r : RA} {k : Nat} {bw : ByteArray} {w1 w2 : World} (h : HeadS B w r k bw w1) (hb : Below w1.heap.size w1 w2) : HeadS B w r k bw w2 := by
  have hc := (bcell hb).1
  have := hb.size
  have := h.G.hz
  have hz := h.hz
  exact ⟨(hc _ _ hz).trans h.c0, (hc _ _ hz).trans h.c1, (hc _ _ hz).trans h.c2, (hc _ _ hz).trans h.c3, (hc _ _ hz).trans h.c4, (hc _ _ hz).trans h.c5, (hc _ _ hz).trans h.c6, (hc _ _ (by omega)).trans h.cb, fun i => (hc _ _ hz).trans (h.box i), by omega, h.G.below h.G.hz hb, h.hB.trans (hb.mono hz)⟩

/-- A slice of one number; of two. -/
def S1 (x : Int) (v : Value) (w : World) : Prop := ∃ p c, v = .slice (some ⟨p, 0, none⟩) 1 c ∧ p < w.heap.size ∧ w.cell? ⟨p, 0, none⟩ = some (.int .i64 x)
def S2 (x y : Int) (v : Value) (w : World) : Prop := ∃ p c, v = .slice (some ⟨p, 0, none⟩) 2 c ∧ p < w.heap.size ∧ w.cell? ⟨p, 0, none⟩ = some (.int .i64 x) ∧ w.cell? ⟨p, 1, none⟩ = some (.int .i64 y)
theorem S1.below {x : Int} {v : Value} {w w' : World} (h : S1 x v w) (hb : Below w.heap.size w w') : S1 x v w' := by
  obtain ⟨p, c, e, h1, h2⟩ := h
  have := hb.size
  exact ⟨p, c, e, by omega, ((bcell hb).1 _ _ h1).trans h2⟩
theorem S2.below {x y : Int} {v : Value} {w w' : World} (h : S2 x y v w) (hb : Below w.heap.size w w') : S2 x y v w' := by
  obtain ⟨p, c, e, h1, h2, h3⟩ := h
  have := hb.size
  exact ⟨p, c, e, by omega, ((bcell hb).1 _ _ h1).trans h2, ((bcell hb).1 _ _ h1).trans h3⟩
theorem S1.mk (x : Int) (w : World) (t : TypeId) (c : Nat) : S1 x (.slice (some ⟨w.heap.size, 0, none⟩) 1 c) (w.alloc (.cells #[.int .i64 x] t)) :=
  ⟨_, _, rfl, by simp, by rw [World.cell?_alloc_at _ _ _ _ rfl]; rfl⟩
theorem S2.mk (x y : Int) (w : World) (t : TypeId) (c : Nat) : S2 x y (.slice (some ⟨w.heap.size, 0, none⟩) 2 c) (w.alloc (.cells #[.int .i64 x, .int .i64 y] t)) :=
  ⟨_, _, rfl, by simp, by rw [World.cell?_alloc_at _ _ _ _ rfl]; rfl, by rw [World.cell?_alloc_at _ _ _ _ rfl]; rfl⟩

/-- The texts of the first statement. -/
structure HT where
  j : Nat
  bw : ByteArray
  t1 : ByteArray
  t2 : ByteArray
  t3 : ByteArray
  t4 : ByteArray
  t5 : ByteArray
  t6 : ByteArray
  sG : ByteArray
  sF : ByteArray
  sY : ByteArray
  sK : ByteArray
def Two (B : Nat) (a b : ByteArray) (v : Value) (w : World) : Prop := w.ownsRow (B + 1) 9 1 v 2 [.string a, .string b]
theorem two_mk {B : Nat} (a b : ByteArray) (w : World) (h : B < w.heap.size) : Two B a b (.slice (some ⟨w.heap.size, 0, none⟩) 2 2) (w.alloc (.cells #[.string a, .string b] 9)) := World.ownsRow_lit _ _ 2 h (by decide) rfl
/-- What each slot holds. -/
def headR (B : Nat) (r : RA) (T : HT) (t : Nat) (v : Value) (w : World) : Prop :=
  match t with
  | 23 => v = .pointer (some ⟨B, 0, none⟩)
  | 24 => v = .string r.nm
  | 25 => v = .string T.t1
  | 26 => v = .pointer (some ⟨B, 1, none⟩)
  | 27 => v = .int .i64 r.g
  | 28 => S1 r.g v w
  | 29 => v = .string T.sG
  | 30 => v = .string T.t2
  | 31 => v = .string T.t3
  | 32 => v = .pointer (some ⟨B, 2, none⟩)
  | 33 => v = .int .i64 r.b
  | 34 => v = .int .i64 T.j
  | 35 => v = .pointer (some ⟨0, T.j, none⟩)
  | 36 => v = .string T.bw
  | 37 => v = .string T.t4
  | 38 => v = .pointer (some ⟨B, 3, none⟩)
  | 39 => v = .int .i64 r.f
  | 40 => S1 r.f v w
  | 41 => v = .string T.sF
  | 42 => v = .string T.t5
  | 43 => v = .pointer (some ⟨B, 4, none⟩)
  | 44 => v = .pointer (some ⟨B, 4, none⟩)
  | 45 => v = .int .i64 r.lo
  | 46 => v = .pointer (some ⟨B, 4, none⟩)
  | 47 => v = .pointer (some ⟨B, 5, none⟩)
  | 48 => v = .int .i64 r.hi
  | 49 => S2 r.lo r.hi v w
  | 50 => v = .string T.sY
  | 51 => v = .pointer (some ⟨B, 6, none⟩)
  | 52 => v = .int .i64 r.k
  | 53 => S1 r.k v w
  | 54 => v = .string T.sK
  | 55 => v = .string T.t6
  | 56 => Two B T.t5 T.t6 v w
  | 7 => Two B T.t5 T.t6 v w
  | _ => False
theorem headR_mono {B : Nat} {r : RA} {T : HT} {w w' : World} (hb : Below w.heap.size w w') : ∀ t v, headR B r T t v w → headR B r T t v w' := by
  intro t v h
  unfold headR at h
  split at h
  all_goals first | exact h.elim | exact h | exact S1.below h hb | exact S2.below h hb | exact ownsRow_below h hb

section
variable {P : Program} {S : World → Prop} {R : Nat → Value → World → Prop} {o : Oper} {w : World} {ρ : Operand → Value} {t : Nat} {v : Value}
theorem run_pure (hd : o.dst = some t) (hv : R t v w) (hS : S w) (hr : (execOp ρ o).run P w = .ok (.value v) w) : FlowOut P S R o w ((execOp ρ o).run P w) := by
  rw [hr]
  exact ⟨fun t' ht => by rw [hd] at ht; cases ht; exact hv, hS, fun _ _ h => h⟩
theorem run_new {O : Obj} (hd : o.dst = some t) (hv : R t v (w.alloc O)) (hS : S (w.alloc O)) (hm : ∀ s u, R s u w → R s u (w.alloc O)) (hr : (execOp ρ o).run P w = .ok (.value v) (w.alloc O)) : FlowOut P S R o w ((execOp ρ o).run P w) := by
  rw [hr]
  exact ⟨fun t' ht => by rw [hd] at ht; cases ht; exact hv, hS, hm⟩
theorem run_calls {f : FuncId} {args : Array Value} (hd : o.dst = some t) (hv : ∀ w', R t v w') (hS : ∀ w', Below w.heap.size w w' → S w') (hm : ∀ w', Below w.heap.size w w' → ∀ s u, R s u w → R s u w')
    (hc : Calls P f args w fun e w' => e = .returned v ∧ Below w.heap.size w w') (hr : (execOp ρ o).run P w = .ok (.enter f args) w) : FlowOut P S R o w ((execOp ρ o).run P w) := by
  rw [hr]
  refine hc.mono ?_
  rintro e w' ⟨rfl, hb⟩
  exact ⟨v, rfl, fun t' ht => by rw [hd] at ht; cases ht; exact hv w', hS w' hb, hm w' hb⟩
end

theorem size_alloc' (w : World) (o : Obj) : (w.alloc o).heap.size = w.heap.size + 1 := by simp
/-- A row of lines of the call's own. -/
def Lines (B : Nat) (L : List (List UInt8)) (v : Value) (w : World) : Prop := w.ownsRow B 9 1 v L.length (L.map str)
theorem Lines.below {B : Nat} {L : List (List UInt8)} {v : Value} {w w' : World} (h : Lines B L v w) (hb : Below w.heap.size w w') : Lines B L v w' := ownsRow_below h hb
theorem Lines.add {B : Nat} {L : List (List UInt8)} {l : List UInt8} {v' : Value} {w' : World} (h : w'.ownsRow B 9 1 v' (L.length + 1) (L.map str ++ [str l])) : Lines B (L ++ [l]) v' w' := by
  unfold Lines
  rw [List.map_append, List.length_append]
  exact h
theorem Two.lines {B : Nat} {r : RA} {t5 t6 : ByteArray} {v : Value} {w : World} (h : Two B t5 t6 v w) (h1 : t5 = ⟨(head1 r).toArray⟩) (h2 : t6 = ⟨(head2 r).toArray⟩) : Lines (B + 1) (text0 r) v w := by
  subst h1 h2
  exact h

theorem Valid.symb {r : RA} {ms : List T3} {ss : List T2} {ls : List T3} (h : Valid r ms ss ls) {i : Nat} (hi : i < r.sn) : (0 ≤ (ss.getD i (0, 0)).1 ∧ (ss.getD i (0, 0)).1 ≤ 99) ∧ (0 ≤ (ss.getD i (0, 0)).2 ∧ (ss.getD i (0, 0)).2 ≤ 19) := by
  have := h.s i hi
  unfold symE at this
  by_cases a : (inB (ss.getD i (0, 0)).1 0 99 && inB (ss.getD i (0, 0)).2 0 19) = true
  · simp [inB] at a
    exact ⟨by simpa using a.1, by simpa using a.2⟩
  · rw [if_neg a] at this
    omega
theorem Lines.form {B : Nat} {L : List (List UInt8)} {v : Value} {w : World} (h : Lines B L v w) (hL : 0 < L.length) : ∃ g cap, v = .slice (some ⟨g, 0, none⟩) L.length cap ∧ L.length ≤ cap ∧ g < w.heap.size := by
  rcases h.2 with ⟨-, h0⟩ | ⟨g, cap, cur, hv, hb, hg, hc, -⟩
  · omega
  · exact ⟨g, cap, hv, hc, (Array.getElem?_eq_some_iff.1 hg).1⟩
theorem join_lines {B g cap : Nat} {L : List (List UInt8)} {w : World} (h : Lines B L (.slice (some ⟨g, 0, none⟩) L.length cap) w) (hc : L.length ≤ cap) (hg : g < w.heap.size) (hl : ∀ l ∈ L, l.length ≤ 1000) (hn : L.length ≤ 1000) :
    Calls Tryz.prog 74 #[.slice (some ⟨g, 0, none⟩) L.length cap, .string ⟨#[10]⟩] w fun e w' => e = .returned (.string ⟨(Lib.join L [10]).toArray⟩) ∧ Below w.heap.size w w' := by
  have hm : ((L.map fun l => (⟨l.toArray⟩ : ByteArray)).map (·.data.toList)) = L := by
    rw [List.map_map]
    exact (List.map_congr_left fun l _ => rfl).trans (List.map_id L)
  have H := Tryz.strings_Join g 0 cap (L.map fun l => ⟨l.toArray⟩) ⟨#[10]⟩ w (fun j x hx => by
    have h1 := h.cells (g := g) rfl j (.string x) (by
      simp only [List.getElem?_map] at hx ⊢
      obtain ⟨l, hl, rfl⟩ := Option.map_eq_some_iff.1 hx
      rw [hl]; rfl)
    have hadd : (⟨g, 0, none⟩ : Addr).add j = ⟨g, 0 + j, none⟩ := by unfold Addr.add; split <;> simp_all
    rw [← hadd]
    exact h1) hg (by simp; omega) (by simpa using hc) (by
      rw [hm]
      have := join_le 1000 L hl
      have h2 : (1000 + 1) * L.length ≤ 1001 * 1000 := Nat.mul_le_mul_left _ hn
      simp
      omega)
  rw [hm, List.length_map] at H
  exact H
theorem textL_len (r : RA) (ms : List T3) (ss : List T2) (ls : List T3) : (textL r ms ss ls).length = 2 + r.mn + r.sn + r.ln + 2 := by
  rw [textL, List.length_append, text3_len]; rfl
theorem text1_all {r : RA} {ms : List T3} {ss : List T2} {ls : List T3} (h : Valid r ms ss ls) (hg : I64 r.g) : ∀ l ∈ textL r ms ss ls, l.length ≤ 1000 := by
  obtain ⟨hnm, -, -, ⟨hfr0, hfr1⟩, ⟨hk0, hk1⟩, ⟨hl0, hl1⟩, ⟨hh0, hh1⟩, -⟩ := wholeE_ok h.whole
  have a0 : ∀ l ∈ text0 r, l.length ≤ 1000 := by
    have h1 := head1_len (r := r) (nameB_len hnm) hg ⟨by omega, by omega⟩
    have h2 := head2_len (r := r) ⟨by omega, by omega⟩ ⟨by omega, by omega⟩ ⟨by omega, by omega⟩
    intro l hl
    simp only [text0, List.mem_cons, List.not_mem_nil, or_false] at hl
    rcases hl with rfl | rfl <;> omega
  have a1 : ∀ l ∈ text1 r ms r.mn, l.length ≤ 1000 := linesTo_all a0 _ fun i hi => by
    obtain ⟨⟨x0l, x0h⟩, ⟨x1l, x1h⟩, ⟨x2l, x2h⟩, -⟩ := h.mark hi
    have := markW_len (x := ms.getD i (0, 0, 0)) ⟨by omega, by omega⟩ ⟨by omega, by omega⟩ ⟨by omega, by omega⟩
    omega
  have a2 : ∀ l ∈ text2 r ms ss r.sn, l.length ≤ 1000 := linesTo_all a1 _ fun i hi => by
    obtain ⟨⟨x0l, x0h⟩, ⟨x1l, x1h⟩⟩ := h.symb hi
    have := symW_len (x := ss.getD i (0, 0)) ⟨by omega, by omega⟩ ⟨by omega, by omega⟩
    omega
  have a3 : ∀ l ∈ text3 r ms ss ls r.ln, l.length ≤ 1000 := linesTo_all a2 _ fun i hi => by
    obtain ⟨⟨x0l, x0h⟩, ⟨x1l, x1h⟩, ⟨x2l, x2h⟩⟩ := h.leng hi
    have := lenW_len (x := ls.getD i (0, 0, 0)) ⟨by omega, by omega⟩ ⟨by omega, by omega⟩ ⟨by omega, by omega⟩
    omega
  intro l hl
  rw [textL, List.mem_append] at hl
  rcases hl with hl | hl
  · exact a3 l hl
  · have h1 := h.mn
    have h2 := h.sn
    have h3 := h.ln
    have h4 := endW_len (n := 2 + r.mn + r.sn + r.ln) (by omega)
    simp only [List.mem_cons, List.not_mem_nil, or_false] at hl
    rcases hl with rfl | rfl
    · omega
    · simp

def WritePost (r : RA) (ms : List T3) (ss : List T2) (ls : List T3) (e : Ending) : Prop := e = .returned (.tuple #[.string ⟨(cardB r ms ss ls).toArray⟩, .int .i64 0])
theorem run_add {o : Oper} {a b : Operand} {x y t : ByteArray} {ρ : Operand → Value} {w : World} (ho : o.op = .binOp .add 9 a b 9) (ha : ρ a = .string x) (hb : ρ b = .string y) (q : ∀ W : World, (Op.stringOp .add x y).run Tryz.prog W = .ok (.string t) W) : (execOp ρ o).run Tryz.prog w = .ok (.value (.string t)) w := by
  obtain ⟨d, op, ty, pos, af, g⟩ := o
  simp only at ho
  subst ho
  have hq := q w
  simp only [run_string_add_if] at hq
  simp [go_sem, execOp, ha, hb, hq]
theorem writePost_of {r : RA} {ms : List T3} {ss : List T2} {ls : List T3} {s : ByteArray} (h : s = ⟨(cardB r ms ss ls).toArray⟩) : WritePost r ms ss ls (.returned (.tuple #[.string s, .int .i64 0])) := by rw [h]; rfl

set_option maxHeartbeats 4000000 in
set_option maxRecDepth 100000 in
theorem write_yes (r : RA) (ms : List T3) (ss : List T2) (ls : List T3) (w : World) (G : Glob w) (hR : Reads w r ms ss ls) (h0 : (checkS r ms ss ls).2.2 = 0) :
    Calls Tryz.prog 36 #[.agg r.cs] w fun e w' => WritePost r ms ss ls e ∧ Below w.heap.size w w' := by
  have hV := valid_of h0
  obtain ⟨hnm, hg, ⟨hb0, hb1⟩, ⟨hfr0, hfr1⟩, ⟨hk0, hk1⟩, ⟨hl0, hl1⟩, ⟨hh0, hh1⟩, hlh⟩ := wholeE_ok hV.whole
  have hg0 : 0 ≤ r.g ∧ r.g ≤ 100 := by
    rcases hV.gauge with ⟨f, m, ⟨h, -⟩ | ⟨h, -⟩ | ⟨h, -⟩⟩ <;> omega
  obtain ⟨hg0, hg1⟩ := hg0
  have hn24 : r.nm.size ≤ 24 := nameB_len hnm
  have hbl : Below w.heap.size w (w.alloc (.cells r.cs 30)) := B_alloc (Below.refl _ _) _
  have HC := check_any r ms ss ls _ (G.alloc (.cells r.cs 30)) (hR.below hbl)
  rw [h0] at HC
  generalize (checkS r ms ss ls).1 = p1 at HC
  generalize (checkS r ms ss ls).2.1 = p2 at HC
  replace HC := Lib.hid HC
  clear h0 hg hnm
  go_enter Tryz.func36, Tryz.ntmps36
  go_wp2_with (go_at_call 19; refine HC.out.mono ?_; rintro e w1 ⟨rfl, hbb1⟩; have hbw1 := B_trans hbl hbb1)
  have hz1 : w.heap.size < w1.heap.size := (by have := hbb1.size; simp at this; omega)
  have hbx : ∀ j, w1.cell? ⟨w.heap.size, j, none⟩ = r.cs[j]? := fun j => by
    rw [hbb1.cell (p := ⟨w.heap.size, j, none⟩) (by simp), World.cell?_alloc_at _ _ _ _ rfl]
  obtain ⟨bw, hbw, hbs, cb⟩ := (G.below G.hz hbw1).base hb0 hb1
  have G1 := G.below G.hz hbw1
  obtain ⟨j, hj⟩ : ∃ j : Nat, r.b - 1 = j := ⟨(r.b - 1).toNat, by omega⟩
  have hwr : IntKind.i64.wrap (r.b - 1) = j := (IntWalk.i64_in _ (by omega)).trans hj
  have hj0 : (0 : Int) ≤ j := by omega
  have hj1 : (j : Int) < 3 := by omega
  rw [hj, Int.toNat_natCast] at cb
  have HS0 : HeadS w.heap.size w1 r j bw w1 := ⟨hbx 0, hbx 1, hbx 2, hbx 3, hbx 4, hbx 5, hbx 6, cb, hbx, hz1, G1, Below.refl _ _⟩
  clear hbx cb hz1 G1 hj HC hbl
  have NG := Lib.hid (fun W b c G hb h0 => num1 [32, 71, 65, 85, 71, 69] b c r.g W G hb h0 (by omega) (by omega) (by decide))
  have NF := Lib.hid (fun W b c G hb h0 => num1 [32, 70, 82, 65, 77, 69, 83] b c r.f W G hb h0 (by omega) (by omega) (by decide))
  have NY := Lib.hid (fun W b c G hb h0 h1 => num2 [89, 69, 65, 82, 83] b c r.lo r.hi W G hb h0 h1 (by omega) (by omega) (by omega) (by omega) (by decide))
  have NK := Lib.hid (fun W b c G hb h0 => num1 [32, 75, 69, 69, 80] b c r.k W G hb h0 (by omega) (by omega) (by decide))
  obtain ⟨sG, eG⟩ : ∃ s : ByteArray, Hid (s = ⟨([32, 71, 65, 85, 71, 69] ++ 32 :: Lib.itoa r.g).toArray⟩) := ex_hid _
  obtain ⟨sF, eF⟩ : ∃ s : ByteArray, Hid (s = ⟨([32, 70, 82, 65, 77, 69, 83] ++ 32 :: Lib.itoa r.f).toArray⟩) := ex_hid _
  obtain ⟨sK, eK⟩ : ∃ s : ByteArray, Hid (s = ⟨([32, 75, 69, 69, 80] ++ 32 :: Lib.itoa r.k).toArray⟩) := ex_hid _
  obtain ⟨sY, eY⟩ : ∃ s : ByteArray, Hid (s = ⟨([89, 69, 65, 82, 83] ++ 32 :: Lib.itoa r.lo ++ 32 :: Lib.itoa r.hi).toArray⟩) := ex_hid _
  rw [← eG.out] at NG
  rw [← eF.out] at NF
  rw [← eK.out] at NK
  rw [← eY.out] at NY
  have zG : sG.size ≤ 100 := by have := Lib.itoa_length_le r.g (by omega) (by omega); rw [eG.out]; simp [ByteArray.size]; omega
  have zF : sF.size ≤ 100 := by have := Lib.itoa_length_le r.f (by omega) (by omega); rw [eF.out]; simp [ByteArray.size]; omega
  have zK : sK.size ≤ 100 := by have := Lib.itoa_length_le r.k (by omega) (by omega); rw [eK.out]; simp [ByteArray.size]; omega
  have zY : sY.size ≤ 100 := by have := Lib.itoa_length_le r.lo (by omega) (by omega); have := Lib.itoa_length_le r.hi (by omega) (by omega); rw [eY.out]; simp [ByteArray.size]; omega
  obtain ⟨t1, z1, e1, q1⟩ := cat_fact ⟨#[82, 69, 69, 76, 32]⟩ r.nm 100 100 (by decide) (by omega) (by omega)
  obtain ⟨t2, z2, e2, q2⟩ := cat_fact t1 sG 200 100 z1 zG (by omega)
  obtain ⟨t3, z3, e3, q3⟩ := cat_fact t2 ⟨#[32, 66, 65, 83, 69, 32]⟩ 300 100 z2 (by decide) (by omega)
  obtain ⟨t4, z4, e4, q4⟩ := cat_fact t3 bw 400 100 z3 (by omega) (by omega)
  obtain ⟨t5, z5, e5, q5⟩ := cat_fact t4 sF 500 100 z4 zF (by omega)
  obtain ⟨t6, z6, e6, q6⟩ := cat_fact sY sK 100 100 zY zK (by omega)
  have hH1 : Hid (t5 = ⟨(head1 r).toArray⟩) := by
    have hx : t5.data.toList = head1 r := by
      rw [e5.out, e4.out, e3.out, e2.out, e1.out, eG.out, eF.out]
      simp [head1, hbw]
    rw [Hid, ← hx]
  have hH2 : Hid (t6 = ⟨(head2 r).toArray⟩) := by
    have hx : t6.data.toList = head2 r := by
      rw [e6.out, eY.out, eK.out]
      simp [head2]
    rw [Hid, ← hx]
  clear e1 e2 e3 e4 e5 e6 eG eF eK eY z1 z2 z3 z4 zG zF zK zY hbw hbs
  go_upto_region 5 with fail
  go_cut [7] (fun v wx => Hid (Two w.heap.size t5 t6 v wx) ∧ Hid (HeadS w.heap.size w1 r j bw wx))
  case first =>
    refine wp_region_flows (S := HeadS w.heap.size w1 r j bw) (R := headR w.heap.size r ⟨j, bw, t1, t2, t3, t4, t5, t6, sG, sF, sY, sK⟩) (N := 121) (by kernel_rfl) (by decide) (by kernel_rfl) rfl (by kernel_rfl) (by kernel_rfl) ?hS ?steps ?hend
    case hS => exact HS0.below (Below.refl _ _).drew
    case hend =>
      intro x w' hS hx
      have h7 : Two w.heap.size t5 t6 (x 7) w' := hx 7 (by kernel_rfl)
      have hb7 := Lib.hid hS
      clear hx hS
      simp only [flowAct, List.filterMap_cons, List.filterMap_nil, patch, List.setIfInBounds_toArray, List.set_cons_zero, List.set_cons_succ]
      go_wp2_with fail
      go_meet
      exact ⟨h7, hb7⟩
    case steps =>
      refine List.forall_mem_cons.2 ⟨⟨rfl, fun ρ w' hS hc hg h_fn hr ho => ?_⟩, ?_⟩
      · have h1 := ho 1 (by kernel_rfl)
        refine run_pure (t := 23) rfl rfl hS ?_
        go_simp
      refine List.forall_mem_cons.2 ⟨⟨rfl, fun ρ w' hS hc hg h_fn hr ho => ?_⟩, ?_⟩
      · have h23 : ρ (.tmp 23) = _ := hr 23 (by kernel_rfl)
        have hcell := hS.c0
        refine run_pure (t := 24) rfl rfl hS ?_
        go_simp
      refine List.forall_mem_cons.2 ⟨⟨rfl, fun ρ w' hS hc hg h_fn hr ho => ?_⟩, ?_⟩
      · have h24 : ρ (.tmp 24) = _ := hr 24 (by kernel_rfl)
        exact run_pure (t := 25) rfl rfl hS (run_add rfl (hc _) h24 q1)
      refine List.forall_mem_cons.2 ⟨⟨rfl, fun ρ w' hS hc hg h_fn hr ho => ?_⟩, ?_⟩
      · have h1 := ho 1 (by kernel_rfl)
        refine run_pure (t := 26) rfl rfl hS ?_
        go_simp
      refine List.forall_mem_cons.2 ⟨⟨rfl, fun ρ w' hS hc hg h_fn hr ho => ?_⟩, ?_⟩
      · have h26 : ρ (.tmp 26) = _ := hr 26 (by kernel_rfl)
        have hcell := hS.c1
        refine run_pure (t := 27) rfl rfl hS ?_
        go_simp
      refine List.forall_mem_cons.2 ⟨⟨rfl, fun ρ w' hS hc hg h_fn hr ho => ?_⟩, ?_⟩
      · have h27 : ρ (.tmp 27) = _ := hr 27 (by kernel_rfl)
        refine run_new (t := 28) rfl (S1.mk r.g w' 3 1) (hS.below (B_alloc (Below.refl _ _) _)) (headR_mono (B_alloc (Below.refl _ _) _)) ?_
        go_simp
      refine List.forall_mem_cons.2 ⟨⟨rfl, fun ρ w' hS hc hg h_fn hr ho => ?_⟩, ?_⟩
      · obtain ⟨p, c, hv, hp, h2⟩ : S1 r.g (ρ (.tmp 28)) w' := hr 28 (by kernel_rfl)
        have hf := h_fn 72
        refine run_calls (t := 29) (v := .string sG) rfl (fun _ => rfl) (fun _ hb => hS.below hb) (fun _ hb => headR_mono hb) (NG.out _ _ c hS.G hp h2) ?_
        go_simp
      refine List.forall_mem_cons.2 ⟨⟨rfl, fun ρ w' hS hc hg h_fn hr ho => ?_⟩, ?_⟩
      · have h25 : ρ (.tmp 25) = _ := hr 25 (by kernel_rfl)
        have h29 : ρ (.tmp 29) = _ := hr 29 (by kernel_rfl)
        exact run_pure (t := 30) rfl rfl hS (run_add rfl h25 h29 q2)
      refine List.forall_mem_cons.2 ⟨⟨rfl, fun ρ w' hS hc hg h_fn hr ho => ?_⟩, ?_⟩
      · have h30 : ρ (.tmp 30) = _ := hr 30 (by kernel_rfl)
        exact run_pure (t := 31) rfl rfl hS (run_add rfl h30 (hc _) q3)
      refine List.forall_mem_cons.2 ⟨⟨rfl, fun ρ w' hS hc hg h_fn hr ho => ?_⟩, ?_⟩
      · have h1 := ho 1 (by kernel_rfl)
        refine run_pure (t := 32) rfl rfl hS ?_
        go_simp
      refine List.forall_mem_cons.2 ⟨⟨rfl, fun ρ w' hS hc hg h_fn hr ho => ?_⟩, ?_⟩
      · have h32 : ρ (.tmp 32) = _ := hr 32 (by kernel_rfl)
        have hcell := hS.c2
        refine run_pure (t := 33) rfl rfl hS ?_
        go_simp
      refine List.forall_mem_cons.2 ⟨⟨rfl, fun ρ w' hS hc hg h_fn hr ho => ?_⟩, ?_⟩
      · have h33 : ρ (.tmp 33) = _ := hr 33 (by kernel_rfl)
        refine run_pure (t := 34) rfl rfl hS ?_
        go_simp
      refine List.forall_mem_cons.2 ⟨⟨rfl, fun ρ w' hS hc hg h_fn hr ho => ?_⟩, ?_⟩
      · have h34 : ρ (.tmp 34) = _ := hr 34 (by kernel_rfl)
        refine run_pure (t := 35) rfl rfl hS ?_
        go_simp
      refine List.forall_mem_cons.2 ⟨⟨rfl, fun ρ w' hS hc hg h_fn hr ho => ?_⟩, ?_⟩
      · have h35 : ρ (.tmp 35) = _ := hr 35 (by kernel_rfl)
        have hcell := hS.cb
        refine run_pure (t := 36) rfl rfl hS ?_
        go_simp
      refine List.forall_mem_cons.2 ⟨⟨rfl, fun ρ w' hS hc hg h_fn hr ho => ?_⟩, ?_⟩
      · have h31 : ρ (.tmp 31) = _ := hr 31 (by kernel_rfl)
        have h36 : ρ (.tmp 36) = _ := hr 36 (by kernel_rfl)
        exact run_pure (t := 37) rfl rfl hS (run_add rfl h31 h36 q4)
      refine List.forall_mem_cons.2 ⟨⟨rfl, fun ρ w' hS hc hg h_fn hr ho => ?_⟩, ?_⟩
      · have h1 := ho 1 (by kernel_rfl)
        refine run_pure (t := 38) rfl rfl hS ?_
        go_simp
      refine List.forall_mem_cons.2 ⟨⟨rfl, fun ρ w' hS hc hg h_fn hr ho => ?_⟩, ?_⟩
      · have h38 : ρ (.tmp 38) = _ := hr 38 (by kernel_rfl)
        have hcell := hS.c3
        refine run_pure (t := 39) rfl rfl hS ?_
        go_simp
      refine List.forall_mem_cons.2 ⟨⟨rfl, fun ρ w' hS hc hg h_fn hr ho => ?_⟩, ?_⟩
      · have h39 : ρ (.tmp 39) = _ := hr 39 (by kernel_rfl)
        refine run_new (t := 40) rfl (S1.mk r.f w' 3 1) (hS.below (B_alloc (Below.refl _ _) _)) (headR_mono (B_alloc (Below.refl _ _) _)) ?_
        go_simp
      refine List.forall_mem_cons.2 ⟨⟨rfl, fun ρ w' hS hc hg h_fn hr ho => ?_⟩, ?_⟩
      · obtain ⟨p, c, hv, hp, h2⟩ : S1 r.f (ρ (.tmp 40)) w' := hr 40 (by kernel_rfl)
        have hf := h_fn 72
        refine run_calls (t := 41) (v := .string sF) rfl (fun _ => rfl) (fun _ hb => hS.below hb) (fun _ hb => headR_mono hb) (NF.out _ _ c hS.G hp h2) ?_
        go_simp
      refine List.forall_mem_cons.2 ⟨⟨rfl, fun ρ w' hS hc hg h_fn hr ho => ?_⟩, ?_⟩
      · have h37 : ρ (.tmp 37) = _ := hr 37 (by kernel_rfl)
        have h41 : ρ (.tmp 41) = _ := hr 41 (by kernel_rfl)
        exact run_pure (t := 42) rfl rfl hS (run_add rfl h37 h41 q5)
      refine List.forall_mem_cons.2 ⟨⟨rfl, fun ρ w' hS hc hg h_fn hr ho => ?_⟩, ?_⟩
      · have h1 := ho 1 (by kernel_rfl)
        refine run_pure (t := 43) rfl rfl hS ?_
        go_simp
      refine List.forall_mem_cons.2 ⟨⟨rfl, fun ρ w' hS hc hg h_fn hr ho => ?_⟩, ?_⟩
      · have h43 : ρ (.tmp 43) = _ := hr 43 (by kernel_rfl)
        refine run_pure (t := 44) rfl rfl hS ?_
        go_simp
      refine List.forall_mem_cons.2 ⟨⟨rfl, fun ρ w' hS hc hg h_fn hr ho => ?_⟩, ?_⟩
      · have h44 : ρ (.tmp 44) = _ := hr 44 (by kernel_rfl)
        have hcell := hS.c4
        refine run_pure (t := 45) rfl rfl hS ?_
        go_simp
      refine List.forall_mem_cons.2 ⟨⟨rfl, fun ρ w' hS hc hg h_fn hr ho => ?_⟩, ?_⟩
      · have h1 := ho 1 (by kernel_rfl)
        refine run_pure (t := 46) rfl rfl hS ?_
        go_simp
      refine List.forall_mem_cons.2 ⟨⟨rfl, fun ρ w' hS hc hg h_fn hr ho => ?_⟩, ?_⟩
      · have h46 : ρ (.tmp 46) = _ := hr 46 (by kernel_rfl)
        refine run_pure (t := 47) rfl rfl hS ?_
        go_simp
      refine List.forall_mem_cons.2 ⟨⟨rfl, fun ρ w' hS hc hg h_fn hr ho => ?_⟩, ?_⟩
      · have h47 : ρ (.tmp 47) = _ := hr 47 (by kernel_rfl)
        have hcell := hS.c5
        refine run_pure (t := 48) rfl rfl hS ?_
        go_simp
      refine List.forall_mem_cons.2 ⟨⟨rfl, fun ρ w' hS hc hg h_fn hr ho => ?_⟩, ?_⟩
      · have h45 : ρ (.tmp 45) = _ := hr 45 (by kernel_rfl)
        have h48 : ρ (.tmp 48) = _ := hr 48 (by kernel_rfl)
        refine run_new (t := 49) rfl (S2.mk r.lo r.hi w' 3 2) (hS.below (B_alloc (Below.refl _ _) _)) (headR_mono (B_alloc (Below.refl _ _) _)) ?_
        go_simp
      refine List.forall_mem_cons.2 ⟨⟨rfl, fun ρ w' hS hc hg h_fn hr ho => ?_⟩, ?_⟩
      · obtain ⟨p, c, hv, hp, h2, h3⟩ : S2 r.lo r.hi (ρ (.tmp 49)) w' := hr 49 (by kernel_rfl)
        have hf := h_fn 72
        refine run_calls (t := 50) (v := .string sY) rfl (fun _ => rfl) (fun _ hb => hS.below hb) (fun _ hb => headR_mono hb) (NY.out _ _ c hS.G hp h2 h3) ?_
        go_simp
      refine List.forall_mem_cons.2 ⟨⟨rfl, fun ρ w' hS hc hg h_fn hr ho => ?_⟩, ?_⟩
      · have h1 := ho 1 (by kernel_rfl)
        refine run_pure (t := 51) rfl rfl hS ?_
        go_simp
      refine List.forall_mem_cons.2 ⟨⟨rfl, fun ρ w' hS hc hg h_fn hr ho => ?_⟩, ?_⟩
      · have h51 : ρ (.tmp 51) = _ := hr 51 (by kernel_rfl)
        have hcell := hS.c6
        refine run_pure (t := 52) rfl rfl hS ?_
        go_simp
      refine List.forall_mem_cons.2 ⟨⟨rfl, fun ρ w' hS hc hg h_fn hr ho => ?_⟩, ?_⟩
      · have h52 : ρ (.tmp 52) = _ := hr 52 (by kernel_rfl)
        refine run_new (t := 53) rfl (S1.mk r.k w' 3 1) (hS.below (B_alloc (Below.refl _ _) _)) (headR_mono (B_alloc (Below.refl _ _) _)) ?_
        go_simp
      refine List.forall_mem_cons.2 ⟨⟨rfl, fun ρ w' hS hc hg h_fn hr ho => ?_⟩, ?_⟩
      · obtain ⟨p, c, hv, hp, h2⟩ : S1 r.k (ρ (.tmp 53)) w' := hr 53 (by kernel_rfl)
        have hf := h_fn 72
        refine run_calls (t := 54) (v := .string sK) rfl (fun _ => rfl) (fun _ hb => hS.below hb) (fun _ hb => headR_mono hb) (NK.out _ _ c hS.G hp h2) ?_
        go_simp
      refine List.forall_mem_cons.2 ⟨⟨rfl, fun ρ w' hS hc hg h_fn hr ho => ?_⟩, ?_⟩
      · have h50 : ρ (.tmp 50) = _ := hr 50 (by kernel_rfl)
        have h54 : ρ (.tmp 54) = _ := hr 54 (by kernel_rfl)
        exact run_pure (t := 55) rfl rfl hS (run_add rfl h50 h54 q6)
      refine List.forall_mem_cons.2 ⟨⟨rfl, fun ρ w' hS hc hg h_fn hr ho => ?_⟩, ?_⟩
      · have h42 : ρ (.tmp 42) = _ := hr 42 (by kernel_rfl)
        have h55 : ρ (.tmp 55) = _ := hr 55 (by kernel_rfl)
        refine run_new (t := 56) rfl (two_mk t5 t6 w' hS.hz) (hS.below (B_alloc (Below.refl _ _) _)) (headR_mono (B_alloc (Below.refl _ _) _)) ?_
        go_simp
      refine List.forall_mem_cons.2 ⟨⟨rfl, fun ρ w' hS hc hg h_fn hr ho => ?_⟩, ?_⟩
      · refine run_pure (t := 7) (v := ρ (.tmp 56)) rfl (hr 56 (by kernel_rfl)) hS ?_
        go_simp
      exact fun o ho => by cases ho
  case rest =>
    obtain ⟨h7, HS⟩ := hcut
    have HL := Lib.hid (h7.out.lines hH1.out hH2.out)
    clear h7 hH1 hH2 NG NF NY NK q1 q2 q3 q4 q5 q6 z5 z6 hwr hj0 hj1
    have K8 := Lib.hid (HS0.box 8)
    have K9 := Lib.hid (HS0.box 9)
    clear HS0
    obtain ⟨i9, hi9, hz9, hs9, hy9⟩ := info_parts info9
    have hb0c := Lib.hid HS.out.hB
    have K7 := Lib.hid (HS.out.box 7)
    have hmn := hV.mn
    have hsn := hV.sn
    have hln := hV.ln
    have HR := Lib.hid hR
    have HVa := Lib.hid hV
    have hBc := HS.out.hz
    have HB := Lib.hid (fun W (h : Below (w.heap.size + 1) w1 W) => hbw1.trans (h.mono (Nat.le_succ _)))
    have HG := Lib.hid (fun W (h : Below (w.heap.size + 1) w1 W) => G.below G.hz (HB.out W h))
    clear hV hR HS hbw1
    have k7 : wc.cell? ⟨w.heap.size, 7, none⟩ = some (.slice r.ma r.mn r.mc) := K7.out
    go_wp2_with fail
    clear k7
    go_loopg [7, 9, 60] r.mn (fun gk v p i wr => ∃ k : Nat, gk = r.mn - k ∧ k ≤ r.mn ∧ i = .int .i64 k ∧ Hid (Lines (w.heap.size + 1) (text1 r ms k) v wr) ∧ w.heap.size < wr.heap.size ∧ Hid (Below (w.heap.size + 1) w1 wr))
    case atStart => exact ⟨0, rfl, Nat.zero_le _, rfl, HL, hBc, hb0c⟩
    case round =>
      obtain ⟨k, rfl, hk, rfl, hlk, hzr, hb⟩ := hrel
      by_cases hlt : k < r.mn
      · obtain ⟨b, o, hma, hbs, hcells⟩ := HR.out.m.at_ (by omega)
        obtain ⟨x0c, x1c, x2c⟩ := hcells k hlt
        have hV := HVa.out
        obtain ⟨⟨x0l, x0h⟩, ⟨x1l, x1h⟩, ⟨x2l, x2h⟩, -⟩ := hV.mark (i := k) hlt
        obtain ⟨-, -, -, ⟨hrf1, hrf2⟩, -⟩ := wholeE_ok hV.whole
        have hst : Hid (text1 r ms (k + 1) = text1 r ms k ++ [markW (ms.getD k (0, 0, 0))]) := rfl
        have hlen : (text1 r ms k).length ≤ 70 := by rw [text1_len]; omega
        generalize ms.getD k (0, 0, 0) = x at x0c x1c x2c x0l x0h x1l x1h x2l x2h hst
        obtain ⟨x0, x1, x2⟩ := x
        simp only at x0c x1c x2c x0l x0h x1l x1h x2l x2h
        have hcw := (bcell (HB.out _ hb.out)).1
        rw [← hcw b _ hbs] at x0c x1c x2c
        have hbw : b < wr.heap.size := by omega
        have hkl : (k : Int) < r.mn := by omega
        have hk0 : 0 ≤ (k : Int) := by omega
        have GW := Lib.hid (HG.out _ hb.out)
        have NM := Lib.hid (fun W p c (hG : Glob W) (hp : p = W.heap.size) => num3 [77, 65, 82, 75] p c x0 x1 x2 (W.alloc (.cells #[.int .i64 x0, .int .i64 x1, .int .i64 x2] 3)) (hG.alloc _) (by simp [hp]) (by rw [hp, World.cell?_alloc_at _ _ _ _ rfl]; rfl) (by rw [hp, World.cell?_alloc_at _ _ _ _ rfl]; rfl) (by rw [hp, World.cell?_alloc_at _ _ _ _ rfl]; rfl) (by omega) (by omega) (by omega) (by omega) (by omega) (by omega) (by decide))
        obtain ⟨sM, eM⟩ : ∃ s : ByteArray, Hid (s = ⟨([77, 65, 82, 75] ++ 32 :: Lib.itoa x0 ++ 32 :: Lib.itoa x1 ++ 32 :: Lib.itoa x2).toArray⟩) := ex_hid _
        rw [← eM.out] at NM
        have hst2 : Hid (text1 r ms (k + 1) = text1 r ms k ++ [markW (x0, x1, x2)]) := hst.out
        have eM2 : Hid (Value.string sM = str (markW (x0, x1, x2))) := by rw [Hid, eM.out]; rfl
        clear hst eM
        clear hcells hV hcw
        go_wp2_with (first
          | (go_at_call 73; (with_reducible refine (NM.out _ _ _ (GW.out.alloc _) (size_alloc' _ _).symm).mono ?_); rintro e wM ⟨rfl, hbM⟩; have hbn : Below wr.heap.size wr wM := B_trans (B_alloc (B_alloc (Below.refl _ _) _) _) hbM; have HN := Lib.hid (hlk.out.below hbn); have hzM : wr.heap.size ≤ wM.heap.size := hbn.size)
          | (at_builtin; refine wpList_append_own _ rfl _ _ 89 rfl (w.heap.size + 1) 9 i9 (.string ⟨#[]⟩) 1 16 Tryz.underlying89 hi9 hz9 hs9 hy9 rfl (by decide) _ _ _ rfl (HN.out.alloc _) ⟨wM.heap.size, 0, none⟩ 1 1 [.string sM] rfl rfl ?c1 ?c2 ?c3 ?c4 ?c5 ?_))
        case c1 => exact news_at _ _ _
        case c2 => intro u hu; simp at hu; subst hu; rfl
        case c3 => unfold maxLen; omega
        case c4 => omega
        case c5 => simp; omega
        intro v' w2 hown' hgrow _
        have hln' : Hid (Lines (w.heap.size + 1) (text1 r ms (k + 1)) v' w2) := by
          rw [eM2.out] at hown'
          rw [Hid, hst2.out]
          exact Lines.add hown'
        have hbn2 : Hid (Below (w.heap.size + 1) w1 w2) := B_grown ((hb.out.trans (hbn.mono hzr)).alloc (by omega) _) (by simp; omega) (HN.out.alloc _) hgrow
        have hz2 : w.heap.size < w2.heap.size := by have := hgrow.size; simp at this; omega
        clear hown' hgrow
        go_wp2
        rw [← hma]
        clear hma
        go_roundg (r.mn - (k + 1))
        case measure => omega
        case rel => exact ⟨k + 1, rfl, hlt, by go_num, hln', hz2, hbn2⟩
      · obtain rfl : k = r.mn := by omega
        obtain ⟨wx, rfl⟩ : ∃ wx : World, wx = wr := ⟨_, rfl⟩
        have HL1 := hlk
        have hb1c := hb
        have hzc := hzr
        have k8 : wx.cell? ⟨w.heap.size, 8, none⟩ = some (.slice r.sa r.sn r.sc) := (hb.out.cell (p := ⟨w.heap.size, 8, none⟩) (Nat.lt_succ_self _)).trans K8.out
        clear hlt hk hlk hb hzr
        go_wp2_with fail
        clear k8
        go_loopg [7, 11, 79] r.sn (fun gk v p i wr => ∃ k : Nat, gk = r.sn - k ∧ k ≤ r.sn ∧ i = .int .i64 k ∧ Hid (Lines (w.heap.size + 1) (text2 r ms ss k) v wr) ∧ w.heap.size < wr.heap.size ∧ Hid (Below (w.heap.size + 1) w1 wr))
        case atStart => exact ⟨0, rfl, Nat.zero_le _, rfl, HL1, hzc, hb1c⟩
        case round =>
          obtain ⟨k, rfl, hk, rfl, hlk, hzr, hb⟩ := hrel
          by_cases hlt : k < r.sn
          · obtain ⟨b, o, hma, hbs, hcells⟩ := HR.out.s.at_ (by omega)
            obtain ⟨x0c, x1c⟩ := hcells k hlt
            have hV := HVa.out
            obtain ⟨⟨x0l, x0h⟩, ⟨x1l, x1h⟩⟩ := hV.symb (i := k) hlt
            obtain ⟨-, -, -, ⟨hrf1, hrf2⟩, -⟩ := wholeE_ok hV.whole
            have hst : Hid (text2 r ms ss (k + 1) = text2 r ms ss k ++ [symW (ss.getD k (0, 0))]) := rfl
            have hlen : (text2 r ms ss k).length ≤ 90 := by rw [text2_len]; omega
            generalize ss.getD k (0, 0) = x at x0c x1c x0l x0h x1l x1h hst
            obtain ⟨x0, x1⟩ := x
            simp only at x0c x1c x0l x0h x1l x1h
            have hcw := (bcell (HB.out _ hb.out)).1
            rw [← hcw b _ hbs] at x0c x1c
            have hbw : b < wr.heap.size := by omega
            have hkl : (k : Int) < r.sn := by omega
            have hk0 : 0 ≤ (k : Int) := by omega
            have GW := Lib.hid (HG.out _ hb.out)
            have NM := Lib.hid (fun W p c (hG : Glob W) (hp : p = W.heap.size) => num2 [83, 89, 77, 66, 79, 76] p c x0 x1 (W.alloc (.cells #[.int .i64 x0, .int .i64 x1] 3)) (hG.alloc _) (by simp [hp]) (by rw [hp, World.cell?_alloc_at _ _ _ _ rfl]; rfl) (by rw [hp, World.cell?_alloc_at _ _ _ _ rfl]; rfl) (by omega) (by omega) (by omega) (by omega) (by decide))
            obtain ⟨sM, eM⟩ : ∃ s : ByteArray, Hid (s = ⟨([83, 89, 77, 66, 79, 76] ++ 32 :: Lib.itoa x0 ++ 32 :: Lib.itoa x1).toArray⟩) := ex_hid _
            rw [← eM.out] at NM
            have hst2 : Hid (text2 r ms ss (k + 1) = text2 r ms ss k ++ [symW (x0, x1)]) := hst.out
            have eM2 : Hid (Value.string sM = str (symW (x0, x1))) := by rw [Hid, eM.out]; rfl
            clear hst eM
            clear hcells hV hcw
            go_wp2_with (first
              | (go_at_call 73; (with_reducible refine (NM.out _ _ _ (GW.out.alloc _) (size_alloc' _ _).symm).mono ?_); rintro e wM ⟨rfl, hbM⟩; have hbn : Below wr.heap.size wr wM := B_trans (B_alloc (B_alloc (Below.refl _ _) _) _) hbM; have HN := Lib.hid (hlk.out.below hbn); have hzM : wr.heap.size ≤ wM.heap.size := hbn.size)
              | (at_builtin; refine wpList_append_own _ rfl _ _ 89 rfl (w.heap.size + 1) 9 i9 (.string ⟨#[]⟩) 1 16 Tryz.underlying89 hi9 hz9 hs9 hy9 rfl (by decide) _ _ _ rfl (HN.out.alloc _) ⟨wM.heap.size, 0, none⟩ 1 1 [.string sM] rfl rfl ?c1 ?c2 ?c3 ?c4 ?c5 ?_))
            case c1 => exact news_at _ _ _
            case c2 => intro u hu; simp at hu; subst hu; rfl
            case c3 => unfold maxLen; omega
            case c4 => omega
            case c5 => simp; omega
            intro v' w2 hown' hgrow _
            have hln' : Hid (Lines (w.heap.size + 1) (text2 r ms ss (k + 1)) v' w2) := by
              rw [eM2.out] at hown'
              rw [Hid, hst2.out]
              exact Lines.add hown'
            have hbn2 : Hid (Below (w.heap.size + 1) w1 w2) := B_grown ((hb.out.trans (hbn.mono hzr)).alloc (by omega) _) (by simp; omega) (HN.out.alloc _) hgrow
            have hz2 : w.heap.size < w2.heap.size := by have := hgrow.size; simp at this; omega
            clear hown' hgrow
            go_wp2
            rw [← hma]
            clear hma
            go_roundg (r.sn - (k + 1))
            case measure => omega
            case rel => exact ⟨k + 1, rfl, hlt, by go_num, hln', hz2, hbn2⟩
          · obtain rfl : k = r.sn := by omega
            obtain ⟨wy, rfl⟩ : ∃ wy : World, wy = wr := ⟨_, rfl⟩
            have HL2 := hlk
            have hb2c := hb
            have hzc2 := hzr
            have k9 : wy.cell? ⟨w.heap.size, 9, none⟩ = some (.slice r.la r.ln r.lc) := (hb.out.cell (p := ⟨w.heap.size, 9, none⟩) (Nat.lt_succ_self _)).trans K9.out
            clear hlt hk hlk hb hzr
            go_wp2_with fail
            clear k9
            go_loopg [7, 13, 96] r.ln (fun gk v p i wr => ∃ k : Nat, gk = r.ln - k ∧ k ≤ r.ln ∧ i = .int .i64 k ∧ Hid (Lines (w.heap.size + 1) (text3 r ms ss ls k) v wr) ∧ w.heap.size < wr.heap.size ∧ Hid (Below (w.heap.size + 1) w1 wr))
            case atStart => exact ⟨0, rfl, Nat.zero_le _, rfl, HL2, hzc2, hb2c⟩
            case round =>
              obtain ⟨k, rfl, hk, rfl, hlk, hzr, hb⟩ := hrel
              by_cases hlt : k < r.ln
              · obtain ⟨b, o, hma, hbs, hcells⟩ := HR.out.l.at_ (by omega)
                obtain ⟨x0c, x1c, x2c⟩ := hcells k hlt
                have hV := HVa.out
                obtain ⟨⟨x0l, x0h⟩, ⟨x1l, x1h⟩, ⟨x2l, x2h⟩⟩ := hV.leng (i := k) hlt
                obtain ⟨-, -, -, ⟨hrf1, hrf2⟩, -⟩ := wholeE_ok hV.whole
                have hst : Hid (text3 r ms ss ls (k + 1) = text3 r ms ss ls k ++ [lenW (ls.getD k (0, 0, 0))]) := rfl
                have hlen : (text3 r ms ss ls k).length ≤ 110 := by rw [text3_len]; omega
                generalize ls.getD k (0, 0, 0) = x at x0c x1c x2c x0l x0h x1l x1h x2l x2h hst
                obtain ⟨x0, x1, x2⟩ := x
                simp only at x0c x1c x2c x0l x0h x1l x1h x2l x2h
                have hcw := (bcell (HB.out _ hb.out)).1
                rw [← hcw b _ hbs] at x0c x1c x2c
                have hbw : b < wr.heap.size := by omega
                have hkl : (k : Int) < r.ln := by omega
                have hk0 : 0 ≤ (k : Int) := by omega
                have GW := Lib.hid (HG.out _ hb.out)
                have NM := Lib.hid (fun W p c (hG : Glob W) (hp : p = W.heap.size) => num3 [76, 69, 78, 71, 84, 72] p c x0 x1 x2 (W.alloc (.cells #[.int .i64 x0, .int .i64 x1, .int .i64 x2] 3)) (hG.alloc _) (by simp [hp]) (by rw [hp, World.cell?_alloc_at _ _ _ _ rfl]; rfl) (by rw [hp, World.cell?_alloc_at _ _ _ _ rfl]; rfl) (by rw [hp, World.cell?_alloc_at _ _ _ _ rfl]; rfl) (by omega) (by omega) (by omega) (by omega) (by omega) (by omega) (by decide))
                obtain ⟨sM, eM⟩ : ∃ s : ByteArray, Hid (s = ⟨([76, 69, 78, 71, 84, 72] ++ 32 :: Lib.itoa x0 ++ 32 :: Lib.itoa x1 ++ 32 :: Lib.itoa x2).toArray⟩) := ex_hid _
                rw [← eM.out] at NM
                have hst2 : Hid (text3 r ms ss ls (k + 1) = text3 r ms ss ls k ++ [lenW (x0, x1, x2)]) := hst.out
                have eM2 : Hid (Value.string sM = str (lenW (x0, x1, x2))) := by rw [Hid, eM.out]; rfl
                clear hst eM
                clear hcells hV hcw
                go_wp2_with (first
                  | (go_at_call 73; (with_reducible refine (NM.out _ _ _ (GW.out.alloc _) (size_alloc' _ _).symm).mono ?_); rintro e wM ⟨rfl, hbM⟩; have hbn : Below wr.heap.size wr wM := B_trans (B_alloc (B_alloc (Below.refl _ _) _) _) hbM; have HN := Lib.hid (hlk.out.below hbn); have hzM : wr.heap.size ≤ wM.heap.size := hbn.size)
                  | (at_builtin; refine wpList_append_own _ rfl _ _ 89 rfl (w.heap.size + 1) 9 i9 (.string ⟨#[]⟩) 1 16 Tryz.underlying89 hi9 hz9 hs9 hy9 rfl (by decide) _ _ _ rfl (HN.out.alloc _) ⟨wM.heap.size, 0, none⟩ 1 1 [.string sM] rfl rfl ?c1 ?c2 ?c3 ?c4 ?c5 ?_))
                case c1 => exact news_at _ _ _
                case c2 => intro u hu; simp at hu; subst hu; rfl
                case c3 => unfold maxLen; omega
                case c4 => omega
                case c5 => simp; omega
                intro v' w2 hown' hgrow _
                have hln' : Hid (Lines (w.heap.size + 1) (text3 r ms ss ls (k + 1)) v' w2) := by
                  rw [eM2.out] at hown'
                  rw [Hid, hst2.out]
                  exact Lines.add hown'
                have hbn2 : Hid (Below (w.heap.size + 1) w1 w2) := B_grown ((hb.out.trans (hbn.mono hzr)).alloc (by omega) _) (by simp; omega) (HN.out.alloc _) hgrow
                have hz2 : w.heap.size < w2.heap.size := by have := hgrow.size; simp at this; omega
                clear hown' hgrow
                go_wp2
                rw [← hma]
                clear hma
                go_roundg (r.ln - (k + 1))
                case measure => omega
                case rel => exact ⟨k + 1, rfl, hlt, by go_num, hln', hz2, hbn2⟩
              · obtain rfl : k = r.ln := by omega
                obtain ⟨g, cap, rfl, hcap, hgz⟩ := hlk.out.form (by rw [text3_len]; omega)
                obtain ⟨N, hN, hN1⟩ : ∃ N : Nat, Hid ((text3 r ms ss ls r.ln).length = N) ∧ N ≤ 110 := ⟨_, rfl, by rw [text3_len]; omega⟩
                have hN2 : Hid (N = 2 + r.mn + r.sn + r.ln) := by rw [Hid, ← hN.out, text3_len]
                rw [hN.out] at hlk hcap ⊢
                have NE := Lib.hid (fun W p c (hG : Glob W) (hp : p = W.heap.size) => num1 [69, 78, 68] p c (N : Int) (W.alloc (.cells #[.int .i64 (N : Int)] 3)) (hG.alloc _) (by simp [hp]) (by rw [hp, World.cell?_alloc_at _ _ _ _ rfl]; rfl) (by omega) (by omega) (by decide))
                obtain ⟨sE, eE⟩ : ∃ s : ByteArray, Hid (s = ⟨([69, 78, 68] ++ 32 :: Lib.itoa (N : Int)).toArray⟩) := ex_hid _
                rw [← eE.out] at NE
                have GW := Lib.hid (HG.out _ hb.out)
                have eE2 : Hid (Value.string sE = str (endW (2 + r.mn + r.sn + r.ln))) := by rw [Hid, eE.out, hN2.out]; rfl
                clear hlt hk eE
                go_wp2_with (first
                  | (go_at_call 73; (with_reducible refine (NE.out _ _ _ GW.out rfl).mono ?_); rintro e wM ⟨rfl, hbM⟩; have hbn : Below wr.heap.size wr wM := B_trans (B_alloc (Below.refl _ _) _) hbM; have HN := Lib.hid (hlk.out.below hbn); have hzM : wr.heap.size ≤ wM.heap.size := hbn.size)
                  | (at_builtin; refine wpList_append_own _ rfl _ _ 89 rfl (w.heap.size + 1) 9 i9 (.string ⟨#[]⟩) 1 16 Tryz.underlying89 hi9 hz9 hs9 hy9 rfl (by decide) _ _ _ rfl (HN.out.alloc _) ⟨wM.heap.size, 0, none⟩ 2 2 [.string sE, .string ⟨#[]⟩] rfl rfl ?e1 ?e2 ?e3 ?e4 ?e5 ?_))
                case e1 => exact news_at _ _ _
                case e2 => intro u hu; simp at hu; rcases hu with rfl | rfl <;> rfl
                case e3 => rw [hN.out]; unfold maxLen; omega
                case e4 => rw [hN.out]; omega
                case e5 => simp; omega
                intro v' w2 hown' hgrow _
                have HT : Hid (Lines (w.heap.size + 1) (textL r ms ss ls) v' w2) := by
                  rw [eE2.out] at hown'
                  unfold Hid Lines textL
                  rw [List.map_append, List.length_append]
                  exact hown'
                have hbn2 : Hid (Below (w.heap.size + 1) w1 w2) := B_grown ((hb.out.trans (hbn.mono hzr)).alloc (by omega) _) (by simp; omega) (HN.out.alloc _) hgrow
                obtain ⟨g2, cap2, rfl, hcap2, hgz2⟩ := HT.out.form (by rw [textL_len]; omega)
                have HJ := Lib.hid (join_lines HT.out hcap2 hgz2 (text1_all HVa.out ⟨by omega, by omega⟩) (by rw [textL_len]; omega))
                obtain ⟨N2, hN2'⟩ : ∃ N2 : Nat, (textL r ms ss ls).length = N2 := ⟨_, rfl⟩
                obtain ⟨sJ, eJ⟩ : ∃ s : ByteArray, Hid (s = ⟨(Lib.join (textL r ms ss ls) [10]).toArray⟩) := ex_hid _
                rw [hN2', ← eJ.out] at HJ
                rw [hN2']
                have HF : Hid (sJ = ⟨(cardB r ms ss ls).toArray⟩) := eJ
                clear hown' hgrow hcap2 hgz2 HT hN2' eJ
                go_wp2_with (go_at_call 74; (with_reducible refine HJ.out.mono ?_); rintro e w3 ⟨rfl, hb3⟩)
                go_ret2
                exact ⟨writePost_of HF.out, (HB.out _ hbn2.out).trans (hb3.mono (by have := (HB.out _ hbn2.out).size; omega))⟩
end Go.Proofs.YtgjpbffoalldkaaGreatDoor
