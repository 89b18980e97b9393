/- The values of the document's examples of layer decay. -/
import Derived.Test.YtanjkhclhcnnaaaJZ
namespace Go.Proofs.Ytanjkhclhcnnaaa
open Go Go.RowKit Go.Shelf

def ts3 : List T3 := [(101, 0, 0), (103, 1, 0)]
def lvK (i : Nat) : Int := [999, 1000, 20000].getD i 0
def grK (i : Nat) : Int := [0, 1, 3].getD i 0
def csK (i : Nat) : List Int := [[900, 910, 925, 944], [900, 909, 925, 944], [900, 910, 929, 949]].getD i []
def owK (i : Nat) : Int := [-1, 1, 3].getD i 0
theorem ks1 (a b : Nat) : strengthF (rule0 a b) hs0 ws0 (200, 250, 400, 500) = ((180, 320), 0) := by kernel_rfl
theorem ks2 (a b : Nat) : strengthF (rule0 a b) hs0 ws0 (50, 500, 0, 700) = ((20, 1000), 0) := by kernel_rfl
theorem kg1 (a b : Nat) : growF (rule0 a b) hs0 ws0 (200, 250, 400, 500) (1000, 1200) = ((1010, 1220), 0) := by kernel_rfl
theorem kg2 (a b : Nat) : growF (rule0 a b) hs0 ws0 (200, 250, 400, 500) (1000000, 1000000) = ((1000000, 1000000), 0) := by kernel_rfl
theorem kr0 (a b : Nat) : gradeS (rule0 a b) hs0 ws0 999 = (0, 0) := by kernel_rfl
theorem kr1 (a b : Nat) : gradeS (rule0 a b) hs0 ws0 1000 = (1, 0) := by kernel_rfl
theorem kr2 (a b : Nat) : gradeS (rule0 a b) hs0 ws0 20000 = (3, 0) := by kernel_rfl
theorem krK (a b i : Nat) (h : i < 3) : gradeS (rule0 a b) hs0 ws0 (lvK i) = (grK i, 0) := by
  rcases (show i = 0 ∨ i = 1 ∨ i = 2 by omega) with rfl | rfl | rfl
  · exact kr0 a b
  · exact kr1 a b
  · exact kr2 a b
theorem kl0 (a b d : Nat) (ta : Option Addr) : levT (task0 a b d ta 0 0) hs0 ws0 days0 [] = [(900, 1000), (910, 1020), (920, 1040), (930, 1060)] := by kernel_rfl
theorem kl0s (a b d : Nat) (ta : Option Addr) : (reachT (task0 a b d ta 0 0) hs0 ws0 days0 []).struck = [] := by kernel_rfl
theorem kw3 (a b d : Nat) (ta : Option Addr) : (taskS (task0 a b d ta 2 2) hs0 ws0 days0 ts3).2.2 = 0 := by kernel_rfl
theorem kl3 (a b d : Nat) (ta : Option Addr) : levT (task0 a b d ta 2 2) hs0 ws0 days0 ts3 = [(940, 989), (960, 999), (980, 1019), (1000, 1039)] := by kernel_rfl
theorem kl3s (a b d : Nat) (ta : Option Addr) : (reachT (task0 a b d ta 2 2) hs0 ws0 days0 ts3).struck = [] := by kernel_rfl
theorem kx1 (a b d : Nat) (ta : Option Addr) : lostP (task0 a b d ta 1 1) (levT (task0 a b d ta 1 1) hs0 ws0 days0 ts1) = (103, -1) := by kernel_rfl
theorem km0 (a b d : Nat) (ta : Option Addr) : movV (task0 a b d ta 0 0) hs0 ws0 days0 [] 1 (0, 0, 0, 0) 101 = (-1, -1) := by kernel_rfl
theorem ko0 (a b d : Nat) (ta : Option Addr) : ownF (task0 a b d ta 0 0) hs0 ws0 days0 [] [900, 910, 925, 944] = (-1, 0) := by kernel_rfl
theorem ko1 (a b d : Nat) (ta : Option Addr) : ownF (task0 a b d ta 0 0) hs0 ws0 days0 [] [900, 909, 925, 944] = (1, 0) := by kernel_rfl
theorem ko2 (a b d : Nat) (ta : Option Addr) : ownF (task0 a b d ta 0 0) hs0 ws0 days0 [] [900, 910, 929, 949] = (3, 0) := by kernel_rfl
theorem koK (a b d : Nat) (ta : Option Addr) (i : Nat) (h : i < 3) : ownF (task0 a b d ta 0 0) hs0 ws0 days0 [] (csK i) = (owK i, 0) := by
  rcases (show i = 0 ∨ i = 1 ∨ i = 2 by omega) with rfl | rfl | rfl
  · exact ko0 a b d ta
  · exact ko1 a b d ta
  · exact ko2 a b d ta
end Go.Proofs.Ytanjkhclhcnnaaa
