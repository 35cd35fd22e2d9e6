/- Plain facts of chapter 5: a further pipe. -/
import Derived.Test.YtlaeckjfjleplaaMG
namespace Go.Proofs.Ytlaeckjfjleplaa
open Go.RowKit

def withB (n : Int) (ps : List Pp) (q : Pp) : Bool := netOkB n (ps ++ [q])
def withN (n : Int) (ps : List Pp) (q : Pp) : Int := if withB n ps q = true then n else 0
def withL (n : Int) (ps : List Pp) (q : Pp) : List Pp := if withB n ps q = true then ps ++ [q] else []
theorem with_net {n : Int} {ps : List Pp} {q : Pp} (h : withB n ps q = true) : netOkB n ps = true := by
  simp only [withB, netOkB, Bool.and_eq_true, decide_eq_true_eq, List.length_append, List.length_cons, List.length_nil, List.all_append] at h ⊢
  exact ⟨⟨h.1.1, by omega⟩, h.2.1⟩
theorem with_yes {n : Int} {ps : List Pp} {q : Pp} (h : withB n ps q = true) : withN n ps q = n ∧ withL n ps q = ps ++ [q] := by simp [withN, withL, h]
theorem with_no {n : Int} {ps : List Pp} {q : Pp} (h : withB n ps q = false) : withN n ps q = 0 ∧ withL n ps q = [] := by simp [withN, withL, h]
theorem withL_len (n : Int) (ps : List Pp) (q : Pp) : (withL n ps q).length ≤ ps.length + 1 := by unfold withL; split <;> simp

end Go.Proofs.Ytlaeckjfjleplaa
