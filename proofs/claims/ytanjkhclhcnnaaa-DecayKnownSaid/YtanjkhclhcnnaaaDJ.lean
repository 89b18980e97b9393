/- The reference's keeping. -/
import Derived.Test.YtanjkhclhcnnaaaDH
namespace Go.Proofs.Ytanjkhclhcnnaaa
open Go.RowKit Go.Shelf

def kLo (r : RuA) (g e : Int) : Nat → Int
  | 0 => 0
  | k + 1 => if (k : Int) + 1 ≤ g - e then gK r k else kLo r g e k
def kHi (r : RuA) (g e : Int) : Nat → Int
  | 0 => 1000000
  | k + 1 => if g + e < (k : Int) + 1 then min (kHi r g e k) (gK r k - 1) else kHi r g e k
theorem k_eq {r : RuA} {hs ws : List T2} (h : RuOK r hs ws) {g e : Int} (hg : 0 ≤ g ∧ g ≤ 3) (he : 0 ≤ e ∧ e ≤ 3) : (kLo r g e 3, kHi r g e 3) = keepS r g e := by
  obtain ⟨a, b, c, d⟩ := h.g
  obtain ⟨g1, g2⟩ := hg
  obtain ⟨e1, e2⟩ := he
  simp only [kLo, kHi, gK, keepS, grS]
  rcases (show g = 0 ∨ g = 1 ∨ g = 2 ∨ g = 3 by omega) with rfl | rfl | rfl | rfl <;> rcases (show e = 0 ∨ e = 1 ∨ e = 2 ∨ e = 3 by omega) with rfl | rfl | rfl | rfl <;> simp <;> omega

set_option maxRecDepth 100000 in
set_option maxHeartbeats 8000000 in
theorem refKeeping_any (r : RuA) (hs ws : List T2) (d g e : Int) (w : World) (hO : RuOK r hs ws) (hg : 0 ≤ g ∧ g ≤ 3) (he : 0 ≤ e ∧ e ≤ 3) :
    Calls Try.prog 94 #[.agg r.cs, .agg #[.int .i64 d, .int .i64 g, .int .i64 e]] w fun x w' => x = .returned (.agg #[.int .i64 (keepS r g e).1, .int .i64 (keepS r g e).2]) ∧ Below w.heap.size w w' := by
  obtain ⟨w0, hw0⟩ : ∃ w0, ((((w).alloc (.cells r.cs 25)).alloc (.cells #[.int .i64 d, .int .i64 g, .int .i64 e] 64)).alloc (.cells #[.int .i64 0, .int .i64 0] 28)).alloc (.cells #[.int .i64 0, .int .i64 1000000] 28) = w0 := ⟨_, rfl⟩
  have hb0 : Below w.heap.size w w0 := by rw [← hw0]; exact B_alloc (B_alloc (B_alloc (B_alloc (Below.refl _ _) _) _) _) _
  have o0 : Ob w0 (w.heap.size) 25 r.cs := by
    rw [← hw0]
    have h := Ob.new (w) r.cs 25
    replace h := h.alloc (.cells #[.int .i64 d, .int .i64 g, .int .i64 e] 64)
    replace h := h.alloc (.cells #[.int .i64 0, .int .i64 0] 28)
    replace h := h.alloc (.cells #[.int .i64 0, .int .i64 1000000] 28)
    exact h
  have o1 : Ob w0 (w.heap.size + 1) 64 #[.int .i64 d, .int .i64 g, .int .i64 e] := by
    rw [← hw0]
    have h := Ob.new ((w).alloc (.cells r.cs 25)) #[.int .i64 d, .int .i64 g, .int .i64 e] 64
    replace h := h.alloc (.cells #[.int .i64 0, .int .i64 0] 28)
    replace h := h.alloc (.cells #[.int .i64 0, .int .i64 1000000] 28)
    simp only [World.size_alloc] at h
    exact h
  have o2 : Ob w0 (w.heap.size + 1 + 1) 28 #[.int .i64 0, .int .i64 0] := by
    rw [← hw0]
    have h := Ob.new (((w).alloc (.cells r.cs 25)).alloc (.cells #[.int .i64 d, .int .i64 g, .int .i64 e] 64)) #[.int .i64 0, .int .i64 0] 28
    replace h := h.alloc (.cells #[.int .i64 0, .int .i64 1000000] 28)
    simp only [World.size_alloc] at h
    exact h
  have o3 : Ob w0 (w.heap.size + 1 + 1 + 1) 28 #[.int .i64 0, .int .i64 1000000] := by
    rw [← hw0]
    have h := Ob.new ((((w).alloc (.cells r.cs 25)).alloc (.cells #[.int .i64 d, .int .i64 g, .int .i64 e] 64)).alloc (.cells #[.int .i64 0, .int .i64 0] 28)) #[.int .i64 0, .int .i64 1000000] 28
    simp only [World.size_alloc] at h
    exact h
  have hk := k_eq hO hg he
  rw [← hk]
  have hgr := hO.g
  have u1 : IntKind.i64.wrap (g - e) = g - e := IntWalk.i64_in _ (by omega)
  have u2 : IntKind.i64.wrap (g + e) = g + e := IntWalk.i64_in _ (by omega)
  have u3 : IntKind.i64.wrap (r.g0 - 1) = r.g0 - 1 := IntWalk.i64_in _ (by omega)
  have u4 : IntKind.i64.wrap (r.g1 - 1) = r.g1 - 1 := IntWalk.i64_in _ (by omega)
  have u5 : IntKind.i64.wrap (r.g2 - 1) = r.g2 - 1 := IntWalk.i64_in _ (by omega)
  obtain ⟨t0, t1, t2⟩ : w0.cell? ⟨w.heap.size + 1, 0, none⟩ = some (.int .i64 d) ∧ w0.cell? ⟨w.heap.size + 1, 1, none⟩ = some (.int .i64 g) ∧ w0.cell? ⟨w.heap.size + 1, 2, none⟩ = some (.int .i64 e) := ⟨o1.cell 0, o1.cell 1, o1.cell 2⟩
  have S0 : Hid (Ob w0 w.heap.size 25 r.cs ∧ Ob w0 (w.heap.size + 1) 64 #[.int .i64 d, .int .i64 g, .int .i64 e] ∧ Ob w0 (w.heap.size + 1 + 1) 28 #[.int .i64 0, .int .i64 0] ∧ Ob w0 (w.heap.size + 1 + 1 + 1) 28 #[.int .i64 0, .int .i64 1000000] ∧ Below w.heap.size w w0) := ⟨o0, o1, o2, o3, hb0⟩
  clear o0 o1 o2 o3 hb0 hO hk hgr t0 t1 t2
  replace hw0 := Lib.hid hw0
  go_enter Try.func94, Try.ntmps94
  go_wp2_with fail
  rw [hw0.out]
  go_loopg [6] 3 (fun gk i wr => ∃ k : Nat, gk = 3 - k ∧ i = .int .i64 k ∧ k ≤ 3 ∧ Ob wr w.heap.size 25 r.cs ∧ Ob wr (w.heap.size + 1) 64 #[.int .i64 d, .int .i64 g, .int .i64 e] ∧ Ob wr (w.heap.size + 1 + 1) 28 #[.int .i64 0, .int .i64 0] ∧ Ob wr (w.heap.size + 1 + 1 + 1) 28 #[.int .i64 (kLo r g e k), .int .i64 (kHi r g e k)] ∧ Below w.heap.size w wr)
  case atStart => exact ⟨0, rfl, rfl, by omega, S0.out.1, S0.out.2.1, S0.out.2.2.1, S0.out.2.2.2.1, S0.out.2.2.2.2⟩
  case round =>
    obtain ⟨k, rfl, rfl, hk, oR, oT, oZ, oS, hbw⟩ := hrel
    clear S0 hw0
    obtain ⟨q0, q1, q2, q3, q4, q5, q6, q7⟩ := oR.rule
    obtain ⟨t1, t2⟩ : wr.cell? ⟨w.heap.size + 1, 1, none⟩ = some (.int .i64 g) ∧ wr.cell? ⟨w.heap.size + 1, 2, none⟩ = some (.int .i64 e) := ⟨oT.cell 1, oT.cell 2⟩
    obtain ⟨s0, s1, s2, s3⟩ := oS.span
    rcases Nat.lt_or_ge k 3 with hlt | hge
    · have hL : kLo r g e (k + 1) = if (k : Int) + 1 ≤ g - e then gK r k else kLo r g e k := rfl
      have hH : kHi r g e (k + 1) = if g + e < (k : Int) + 1 then min (kHi r g e k) (gK r k - 1) else kHi r g e k := rfl
      have hgk : gK r k = if k = 0 then r.g0 else if k = 1 then r.g1 else r.g2 := rfl
      generalize kLo r g e k = lo at s0 hL oS
      generalize kHi r g e k = hi at s1 hH oS
      have PP := Lib.hid (And.intro oR (And.intro oT (And.intro oZ (And.intro oS hbw))))
      clear oR oT oZ oS hbw
      rcases (show k = 0 ∨ k = 1 ∨ k = 2 by omega) with rfl | rfl | rfl
      all_goals simp only [if_pos, show ¬ (1 : Nat) = 0 by decide, show ¬ (2 : Nat) = 0 by decide, show ¬ (2 : Nat) = 1 by decide, if_false] at hgk
      all_goals rw [hgk] at hL hH
      all_goals simp only [show ((0 : Nat) : Int) + 1 = 1 from rfl, show ((1 : Nat) : Int) + 1 = 2 from rfl, show ((2 : Nat) : Int) + 1 = 3 from rfl] at hL hH
      all_goals clear hgk
      · by_cases h1 : (1 : Int) ≤ g - e
        all_goals by_cases h2 : g + e < (1 : Int)
        · exfalso; omega
        · simp only [h1, h2, if_true, if_false] at hL hH
          replace hL := Lib.hid hL
          replace hH := Lib.hid hH
          go_wp2_with fail
          obtain ⟨oR, oT, oZ, oS, hbw⟩ := PP.out
          go_roundg (3 - (0 + 1))
          case measure => omega
          case rel => exact ⟨0 + 1, rfl, rfl, by omega, oR.other (by simp only; omega) _, oT.other (by simp only; omega) _, oZ.other (by simp only; omega) _, by rw [hL.out, hH.out]; exact oS.set 0 _, hbw.setCell (by simp only; omega) _⟩
        · simp only [h1, h2, if_true, if_false] at hL hH
          replace hL := Lib.hid hL
          replace hH := Lib.hid hH
          go_wp2_with fail
          all_goals go_region
          all_goals go_wp2_with fail
          all_goals obtain ⟨oR, oT, oZ, oS, hbw⟩ := PP.out
          all_goals go_roundg (3 - (0 + 1))
          all_goals first | (case measure => omega) | skip
          all_goals first
            | exact ⟨0 + 1, rfl, rfl, by omega, (oR.drew).other (by simp only; omega) _, (oT.drew).other (by simp only; omega) _, (oZ.drew).other (by simp only; omega) _, by rw [hL.out, hH.out, show min hi (r.g0 - 1) = hi by omega]; exact (oS.drew).set 1 _, (hbw.drew).setCell (by simp only; omega) _⟩
            | exact ⟨0 + 1, rfl, rfl, by omega, (oR.drew).other (by simp only; omega) _, (oT.drew).other (by simp only; omega) _, (oZ.drew).other (by simp only; omega) _, by rw [hL.out, hH.out, show min hi (r.g0 - 1) = r.g0 - 1 by omega]; exact (oS.drew).set 1 _, (hbw.drew).setCell (by simp only; omega) _⟩
            | (exact ⟨0 + 1, rfl, rfl, by omega, oR.other (by simp only; omega) _, oT.other (by simp only; omega) _, oZ.other (by simp only; omega) _, by rw [hL.out, hH.out, show min hi (r.g0 - 1) = hi by omega]; exact oS.set 1 _, hbw.setCell (by simp only; omega) _⟩)
            | (exact ⟨0 + 1, rfl, rfl, by omega, oR.other (by simp only; omega) _, oT.other (by simp only; omega) _, oZ.other (by simp only; omega) _, by rw [hL.out, hH.out, show min hi (r.g0 - 1) = r.g0 - 1 by omega]; exact oS.set 1 _, hbw.setCell (by simp only; omega) _⟩)
        · simp only [h1, h2, if_false] at hL hH
          replace hL := Lib.hid hL
          replace hH := Lib.hid hH
          go_wp2_with fail
          obtain ⟨oR, oT, oZ, oS, hbw⟩ := PP.out
          go_roundg (3 - (0 + 1))
          case measure => omega
          case rel => exact ⟨0 + 1, rfl, rfl, by omega, oR, oT, oZ, by rw [hL.out, hH.out]; exact oS, hbw⟩
      · by_cases h1 : (2 : Int) ≤ g - e
        all_goals by_cases h2 : g + e < (2 : Int)
        · exfalso; omega
        · simp only [h1, h2, if_true, if_false] at hL hH
          replace hL := Lib.hid hL
          replace hH := Lib.hid hH
          go_wp2_with fail
          obtain ⟨oR, oT, oZ, oS, hbw⟩ := PP.out
          go_roundg (3 - (1 + 1))
          case measure => omega
          case rel => exact ⟨1 + 1, rfl, rfl, by omega, oR.other (by simp only; omega) _, oT.other (by simp only; omega) _, oZ.other (by simp only; omega) _, by rw [hL.out, hH.out]; exact oS.set 0 _, hbw.setCell (by simp only; omega) _⟩
        · simp only [h1, h2, if_true, if_false] at hL hH
          replace hL := Lib.hid hL
          replace hH := Lib.hid hH
          go_wp2_with fail
          all_goals go_region
          all_goals go_wp2_with fail
          all_goals obtain ⟨oR, oT, oZ, oS, hbw⟩ := PP.out
          all_goals go_roundg (3 - (1 + 1))
          all_goals first | (case measure => omega) | skip
          all_goals first
            | exact ⟨1 + 1, rfl, rfl, by omega, (oR.drew).other (by simp only; omega) _, (oT.drew).other (by simp only; omega) _, (oZ.drew).other (by simp only; omega) _, by rw [hL.out, hH.out, show min hi (r.g1 - 1) = hi by omega]; exact (oS.drew).set 1 _, (hbw.drew).setCell (by simp only; omega) _⟩
            | exact ⟨1 + 1, rfl, rfl, by omega, (oR.drew).other (by simp only; omega) _, (oT.drew).other (by simp only; omega) _, (oZ.drew).other (by simp only; omega) _, by rw [hL.out, hH.out, show min hi (r.g1 - 1) = r.g1 - 1 by omega]; exact (oS.drew).set 1 _, (hbw.drew).setCell (by simp only; omega) _⟩
            | (exact ⟨1 + 1, rfl, rfl, by omega, oR.other (by simp only; omega) _, oT.other (by simp only; omega) _, oZ.other (by simp only; omega) _, by rw [hL.out, hH.out, show min hi (r.g1 - 1) = hi by omega]; exact oS.set 1 _, hbw.setCell (by simp only; omega) _⟩)
            | (exact ⟨1 + 1, rfl, rfl, by omega, oR.other (by simp only; omega) _, oT.other (by simp only; omega) _, oZ.other (by simp only; omega) _, by rw [hL.out, hH.out, show min hi (r.g1 - 1) = r.g1 - 1 by omega]; exact oS.set 1 _, hbw.setCell (by simp only; omega) _⟩)
        · simp only [h1, h2, if_false] at hL hH
          replace hL := Lib.hid hL
          replace hH := Lib.hid hH
          go_wp2_with fail
          obtain ⟨oR, oT, oZ, oS, hbw⟩ := PP.out
          go_roundg (3 - (1 + 1))
          case measure => omega
          case rel => exact ⟨1 + 1, rfl, rfl, by omega, oR, oT, oZ, by rw [hL.out, hH.out]; exact oS, hbw⟩
      · by_cases h1 : (3 : Int) ≤ g - e
        all_goals by_cases h2 : g + e < (3 : Int)
        · exfalso; omega
        · simp only [h1, h2, if_true, if_false] at hL hH
          replace hL := Lib.hid hL
          replace hH := Lib.hid hH
          go_wp2_with fail
          obtain ⟨oR, oT, oZ, oS, hbw⟩ := PP.out
          go_roundg (3 - (2 + 1))
          case measure => omega
          case rel => exact ⟨2 + 1, rfl, rfl, by omega, oR.other (by simp only; omega) _, oT.other (by simp only; omega) _, oZ.other (by simp only; omega) _, by rw [hL.out, hH.out]; exact oS.set 0 _, hbw.setCell (by simp only; omega) _⟩
        · simp only [h1, h2, if_true, if_false] at hL hH
          replace hL := Lib.hid hL
          replace hH := Lib.hid hH
          go_wp2_with fail
          all_goals go_region
          all_goals go_wp2_with fail
          all_goals obtain ⟨oR, oT, oZ, oS, hbw⟩ := PP.out
          all_goals go_roundg (3 - (2 + 1))
          all_goals first | (case measure => omega) | skip
          all_goals first
            | exact ⟨2 + 1, rfl, rfl, by omega, (oR.drew).other (by simp only; omega) _, (oT.drew).other (by simp only; omega) _, (oZ.drew).other (by simp only; omega) _, by rw [hL.out, hH.out, show min hi (r.g2 - 1) = hi by omega]; exact (oS.drew).set 1 _, (hbw.drew).setCell (by simp only; omega) _⟩
            | exact ⟨2 + 1, rfl, rfl, by omega, (oR.drew).other (by simp only; omega) _, (oT.drew).other (by simp only; omega) _, (oZ.drew).other (by simp only; omega) _, by rw [hL.out, hH.out, show min hi (r.g2 - 1) = r.g2 - 1 by omega]; exact (oS.drew).set 1 _, (hbw.drew).setCell (by simp only; omega) _⟩
            | (exact ⟨2 + 1, rfl, rfl, by omega, oR.other (by simp only; omega) _, oT.other (by simp only; omega) _, oZ.other (by simp only; omega) _, by rw [hL.out, hH.out, show min hi (r.g2 - 1) = hi by omega]; exact oS.set 1 _, hbw.setCell (by simp only; omega) _⟩)
            | (exact ⟨2 + 1, rfl, rfl, by omega, oR.other (by simp only; omega) _, oT.other (by simp only; omega) _, oZ.other (by simp only; omega) _, by rw [hL.out, hH.out, show min hi (r.g2 - 1) = r.g2 - 1 by omega]; exact oS.set 1 _, hbw.setCell (by simp only; omega) _⟩)
        · simp only [h1, h2, if_false] at hL hH
          replace hL := Lib.hid hL
          replace hH := Lib.hid hH
          go_wp2_with fail
          obtain ⟨oR, oT, oZ, oS, hbw⟩ := PP.out
          go_roundg (3 - (2 + 1))
          case measure => omega
          case rel => exact ⟨2 + 1, rfl, rfl, by omega, oR, oT, oZ, by rw [hL.out, hH.out]; exact oS, hbw⟩
    · obtain rfl : k = 3 := by omega
      obtain ⟨lo, hlo⟩ : ∃ lo, kLo r g e 3 = lo := ⟨_, rfl⟩
      obtain ⟨hi, hhi⟩ : ∃ hi, kHi r g e 3 = hi := ⟨_, rfl⟩
      rw [hlo] at s0
      rw [hhi] at s1
      replace hlo := Lib.hid hlo
      replace hhi := Lib.hid hhi
      obtain ⟨z0, z1, z2, z3⟩ := oZ.span
      replace hbw := Lib.hid hbw
      clear oR oT oZ oS q0 q1 q2 q3 q4 q5 q6 q7 t1 t2
      go_wp2
      refine bodyPost_ret (v := .agg #[.int .i64 lo, .int .i64 hi]) (by simp [results, Try.results94, go_sem, z0, z1]) rfl ⟨by rw [hlo.out, hhi.out], ?_⟩
      exact (hbw.out.setCell (by simp only; omega) _).setCell (by simp only; omega) _
end Go.Proofs.Ytanjkhclhcnnaaa
