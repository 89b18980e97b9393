/- A drawn region in a round of a range over a function: a condition on the world that is kept behind every operation. -/
import Derived.Test.YtanjkhclhcnnaaaWX
import Derived.Deep.RegionHeld3
namespace Go.Proofs.Ytanjkhclhcnnaaa
open Go

/-- It ends in no other way. -/
def Only (Q : Exit → Act → World → Prop) : Exit → Act → World → Prop := fun e a w => e = .normal ∧ Q .normal a w
theorem Only.mk {Q : Exit → Act → World → Prop} {a : Act} {w : World} (h : Q .normal a w) : Only Q .normal a w := ⟨rfl, h⟩
theorem Only.imp {Q : Exit → Act → World → Prop} (e : Exit) (a : Act) (w : World) (h : Only Q e a w) : Q e a w := by obtain ⟨rfl, h⟩ := h; exact h
theorem Only.not_panic {Q : Exit → Act → World → Prop} {p : Prop} {c : List PanicEntry} {a : Act} {w : World} (h : Only Q (.panic c) a w) : p := by cases h.1
theorem Only.no_out {Q : Exit → Act → World → Prop} : ¬ LetsOut (Only Q) := fun ⟨_, _, h⟩ => by cases h.1

section
variable {P : Program} {ops : Array Oper} {Q : Exit → Act → World → Prop} {S : World → Prop}
theorem rowsIn_inRound {l n : Nat} {row : String} {args : Array Value} {w : World} {R : Value → World → Prop} (h : Rows P row args w R) : RowsIn (Fence.wide.inRound l) n P row args w R :=
  fun c cs _ => let ⟨v, w', r, s⟩ := h c cs; ⟨v, w', r, stepsIn_wide.2 s⟩
/-- In a round of a loop over a function: what an operation does outside it does there too. -/
theorem wpIn_of_wp2 {o : Oper} {l n : Nat} {a : Act} {w : World} {K : Act → World → Prop} (hd : plainOp o = true) (h : o.wp P a w K Q) : o.wpIn (Fence.wide.inRound l) n P a w K Q := by
  refine ⟨fun _ _ => trivial, ?_⟩
  rw [Oper.semAt_eq _ _ _ (fun c hc => by unfold plainOp at hd; rw [hc] at hd; cases hd)]
  unfold Oper.wp at h
  generalize (execOp a.eval o).run P w = r at *
  match r, h with
  | .ok (.value v) w', h => exact h
  | .ok .skip w', h => exact h
  | .ok (.defer d) w', h => exact h
  | .ok (.enter f args) w', h => exact ⟨(fun (hz : _ = true) => Bool.noConfusion (show false = true from hz)), CallsIn.inRound l (callsIn_wide.2 h)⟩
  | .ok (.row row args) w', h => exact ⟨(fun (hz : _ = true) => Bool.noConfusion (show false = true from hz)), rowsIn_inRound h⟩
  | .halt (.panic v) w', h => exact h
theorem wpAnyIn_of_any (hno : ¬ LetsOut Q) {l n : Nat} (hd : ops.toList.all plainOp = true) : ∀ {fuel : Nat} {listed : Array Bool} {a : Act} {w : World}, wpAny P .any ops Q fuel listed a w → wpAnyIn (Fence.wide.inRound l) n P .any ops Q fuel listed a w
  | 0, _, _, _, h => h
  | fuel + 1, listed, a, w, h => ⟨h.1, fun i hi => by
      have h2 := h.2 i hi
      unfold wpOp at h2
      unfold wpOpIn
      split
      · rename_i ho; simp only [ho] at h2; exact wpAnyIn_of_any hno hd h2
      · rename_i o ho
        simp only [ho] at h2
        have hm : o ∈ ops.toList := by rw [Array.mem_toList_iff]; exact Array.mem_of_getElem? ho
        have hd1 := List.all_eq_true.1 hd o hm
        split
        · rename_i hw
          simp only [hw, if_true] at h2
          rcases h2 with h2 | ⟨_, h2⟩
          · exact wpIn_of_wp2 hd1 (Oper.wp_mono (fun a w h => wpAnyIn_of_any hno hd h) h2)
          · exact absurd h2 hno
        · rename_i hw; simp only [hw] at h2; exact ⟨fun _ _ => trivial, wpAnyIn_of_any hno hd h2⟩⟩

theorem wpIn_region_held {id l n : Nat} {a : Act} {w : World} (hm : P.follows .mixedOrders = true)
    (hd : ops.toList.all plainOp = true) (hS : S w.drew)
    (h : S w.drew → wpAnyH P .any ops (Only Q) S ops.size (Array.replicate ops.size false) a w.drew) : (Code.region id ops true).wpIn (Fence.wide.inRound l) n P Q a w :=
  wpIn_mono (wpIn_region_any hm (wpAnyIn_of_any Only.no_out hd (wpAny_of_held _ _ _ _ (h hS)))) Only.imp

theorem wpAnyIn_of_all2 {l n : Nat} (hd : ops.toList.all plainOp = true) : ∀ {fuel : Nat} {listed : Array Bool} {a : Act} {w : World}, wpAll P ops Q fuel listed a w → wpAnyIn (Fence.wide.inRound l) n P .any ops Q fuel listed a w
  | 0, _, _, _, h => h
  | fuel + 1, listed, a, w, h => ⟨h.1, fun i hi => by
      have h2 := h.2 i hi
      unfold wpOpL at h2
      unfold wpOpIn
      split
      · rename_i ho; simp only [ho] at h2; exact wpAnyIn_of_all2 hd h2
      · rename_i o ho
        simp only [ho] at h2
        have hm : o ∈ ops.toList := by rw [Array.mem_toList_iff]; exact Array.mem_of_getElem? ho
        have hd1 := List.all_eq_true.1 hd o hm
        split
        · rename_i hw; simp only [hw, if_true] at h2; exact wpIn_of_wp2 hd1 (Oper.wp_mono (fun a w h => wpAnyIn_of_all2 hd h) h2)
        · rename_i hw; simp only [hw] at h2; exact ⟨fun _ _ => trivial, wpAnyIn_of_all2 hd h2⟩⟩
theorem wpIn_region_steps2 {id l n : Nat} {w : World} {a0 : Act} {I : Nat → (Nat → Value) → World → Prop} {V : (Nat → Value) → Nat → Value} {eff : Nat → Bool} {need till : Nat → Nat} (m : Nat) (hm : P.follows .mixedOrders = true) (hn : (dstsOf ops).Nodup)
    (hafter : ((List.range ops.size).all fun i => ((ops[i]?).map fun o => o.after.all fun e => decide (e.on < i)).getD true) = true)
    {N : Nat} (hN : a0.tmps.size = N) (hs : ((dstsOf ops).all fun t => decide (t < N)) = true) (hb : readsBound ops = true)
    (hneed : needOK ops eff need = true) (htill : tillOK ops eff need till m = true) (heff : effOK ops eff need m = true)
    (hd : ops.toList.all plainOp = true)
    (hS : I 0 (fun _ => undef) w.drew) (hsteps : StepAll (fun i o => StepRun P ops I V eff need till a0 i o) ops.toList 0)
    (hend : ∀ (outs : Nat → Value) (w' : World), I m outs w' → Q .normal (flowAct a0 ops (V outs)) w') : (Code.region id ops true).wpIn (Fence.wide.inRound l) n P Q a0 w :=
  wpIn_region_any hm (wpAnyIn_of_all2 hd (wpAll_steps m hn hafter hN hs hb hneed htill heff hS (fun i o h => by
    have := hsteps.at_ i o (by rw [Array.getElem?_toList]; exact h)
    rwa [Nat.zero_add] at this) hend))
end
end Go.Proofs.Ytanjkhclhcnnaaa
