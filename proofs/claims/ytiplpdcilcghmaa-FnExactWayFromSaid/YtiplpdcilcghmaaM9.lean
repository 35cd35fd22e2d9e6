/- Plain facts, chapter 3: steps along pipes and back. -/
import Derived.Test.YtiplpdcilcghmaaM8
namespace Go.Proofs.Ytiplpdcilcghmaa
open Go.RowKit

/-- from where to where a step leads, and how much more may go along it -/
def stFr (ps : List Pp) (s : Nat) : Int := if s % 2 = 1 then (ps.getD (s / 2) zeroPp).to else (ps.getD (s / 2) zeroPp).fr
def stTo (ps : List Pp) (s : Nat) : Int := if s % 2 = 1 then (ps.getD (s / 2) zeroPp).fr else (ps.getD (s / 2) zeroPp).to
def stRoom (ps : List Pp) (xs : List Int) (s : Nat) : Int := if s % 2 = 1 then xs.getD (s / 2) 0 - (ps.getD (s / 2) zeroPp).le else (ps.getD (s / 2) zeroPp).mo - xs.getD (s / 2) 0

section
variable {ps : List Pp} {xs : List Int} {s k : Nat}
theorem st_odd (h : s % 2 = 1) (hk : s / 2 = k) (hl : k < ps.length) (hx : k < xs.length) : stFr ps s = ps[k].to ∧ stTo ps s = ps[k].fr ∧ stRoom ps xs s = xs[k] - ps[k].le := by
  subst hk
  simp [stFr, stTo, stRoom, h, List.getD, List.getElem?_eq_getElem hl, List.getElem?_eq_getElem hx]
theorem st_even (h : s % 2 = 0) (hk : s / 2 = k) (hl : k < ps.length) (hx : k < xs.length) : stFr ps s = ps[k].fr ∧ stTo ps s = ps[k].to ∧ stRoom ps xs s = ps[k].mo - xs[k] := by
  subst hk
  simp [stFr, stTo, stRoom, h, List.getD, List.getElem?_eq_getElem hl, List.getElem?_eq_getElem hx]
end

def openF (ps : List Pp) (xs : List Int) (s : Nat) : Bool := decide (0 < stRoom ps xs s)
/-- the steps that may be made, in the order of their numbers -/
def openL (ps : List Pp) (xs : List Int) : List Int := numW (2 * ps.length) (openF ps xs)

end Go.Proofs.Ytiplpdcilcghmaa
