/- Plain facts, chapter 3: free nets. -/
import Derived.Test.YtiplpdcilcghmaaM6
namespace Go.Proofs.Ytiplpdcilcghmaa
open Go.RowKit

def freeB (n : Int) (ps : List Pp) : Bool := netOkB n ps && ps.all fun p => decide (p.le = 0)
theorem free_turn (n : Int) (ps : List Pp) : freeB n (ps.map turnP) = freeB n ps := by
  simp only [freeB, netOk_turn, List.all_map]
  rfl
theorem free_zero {n : Int} {ps : List Pp} (h : netOkB n ps = true) : holdsB n ps (List.replicate ps.length 0) = freeB n ps := by
  have hr := net_rooms h
  have hf : flowOkB n ps (List.replicate ps.length 0) = true := by simp [flowOkB, h, withinB]
  rw [holdsB, freeB, hf, h, Bool.true_and, Bool.true_and]
  clear h hf
  induction ps with
  | nil => rfl
  | cons p ps ih =>
    have hp := hr p (by simp)
    rw [List.length_cons, List.replicate_succ, List.zip_cons_cons, List.all_cons, List.all_cons, ih (fun q hq => hr q (by simp [hq]))]
    congr 1
    rw [Bool.eq_iff_iff]
    simp only [withinB, Bool.and_eq_true, decide_eq_true_eq]
    omega

end Go.Proofs.Ytiplpdcilcghmaa
