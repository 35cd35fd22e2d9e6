/- Plain facts of chapter 11: unit nets, and nets with emptied pipes. -/
import Derived.Test.YtabkhpeoeihmmaaN1
namespace Go.Proofs.Ytabkhpeoeihmmaa
open Go.RowKit

def unitP (p : Pp) : Pp := ⟨p.fr, p.to, 0, min p.mo 1, p.co⟩
def unitN (n : Int) (ps : List Pp) : Int := if netOkB n ps = true then n else 0
def unitL (n : Int) (ps : List Pp) : List Pp := if netOkB n ps = true then ps.map unitP else []
def outP (xs : List Int) (k : Nat) (p : Pp) : Pp := if (k : Int) ∈ xs then ⟨p.fr, p.to, 0, 0, p.co⟩ else p
def outL (xs : List Int) (ps : List Pp) : List Pp := ps.mapIdx (outP xs)
def outB (n : Int) (ps : List Pp) (xs : List Int) : Bool := netOkB n ps && placesB ps xs
def outN (n : Int) (ps : List Pp) (xs : List Int) : Int := if outB n ps xs = true then n else 0
def outR (n : Int) (ps : List Pp) (xs : List Int) : List Pp := if outB n ps xs = true then outL xs ps else []

section
variable {n a b : Int} {ps qs : List Pp} {xs : List Int} {k : Nat}
theorem unit_no (h : netOkB n ps = false) : unitN n ps = 0 ∧ unitL n ps = [] := by simp [unitN, unitL, h]
theorem unit_yes (h : netOkB n ps = true) : unitN n ps = n ∧ unitL n ps = ps.map unitP := by simp [unitN, unitL, h]
theorem unitL_len (n : Int) (ps : List Pp) : (unitL n ps).length ≤ ps.length := by
  unfold unitL; split <;> simp
theorem outB_no (h : outB n ps xs = false) : outN n ps xs = 0 ∧ outR n ps xs = [] := by simp [outN, outR, h]
theorem outB_yes (h : outB n ps xs = true) : outN n ps xs = n ∧ outR n ps xs = outL xs ps := by simp [outN, outR, h]
theorem outB_parts (h : outB n ps xs = true) : netOkB n ps = true ∧ placesB ps xs = true := by simpa [outB] using h
theorem outL_len (xs : List Int) (ps : List Pp) : (outL xs ps).length = ps.length := List.length_mapIdx
theorem outR_len (n : Int) (ps : List Pp) (xs : List Int) : (outR n ps xs).length ≤ ps.length := by
  unfold outR; split
  · rw [outL_len]; exact Nat.le_refl _
  · simp
theorem outL_at (xs : List Int) {ps : List Pp} (hk : k < ps.length) : (outL xs ps)[k]'(by rw [outL_len]; exact hk) = outP xs k ps[k] := List.getElem_mapIdx
theorem outL_getD (xs : List Int) {ps : List Pp} (hk : k < ps.length) : (outL xs ps).getD k zeroPp = outP xs k (ps.getD k zeroPp) := by
  rw [List.getD_eq_getElem?_getD, List.getD_eq_getElem?_getD, List.getElem?_eq_getElem (by rw [outL_len]; exact hk), List.getElem?_eq_getElem hk, outL_at xs hk]
  rfl
theorem getD_none {ps : List Pp} (hk : ¬ k < ps.length) : ps.getD k zeroPp = zeroPp := by
  rw [List.getD_eq_getElem?_getD, List.getElem?_eq_none (by omega)]; rfl
theorem unit_getD (ps : List Pp) (hk : k < ps.length) : (ps.map unitP).getD k zeroPp = unitP (ps.getD k zeroPp) := by
  rw [List.getD_eq_getElem?_getD, List.getD_eq_getElem?_getD, List.getElem?_eq_getElem (by simpa using hk), List.getElem?_eq_getElem hk]
  simp

theorem net_of (h : netOkB n ps = true) (hl : qs.length = ps.length) (hp : ∀ (k : Nat) (hk : k < qs.length), pipeOkB n qs[k].fr qs[k].to qs[k].le qs[k].mo qs[k].co = true) : netOkB n qs = true := by
  obtain ⟨n2, n5, l7, -⟩ := netOk_parts h
  simp only [netOkB, withinB, Bool.and_eq_true, decide_eq_true_eq, List.all_eq_true]
  refine ⟨⟨⟨n2, n5⟩, by omega⟩, fun p hm => ?_⟩
  obtain ⟨k, hk, rfl⟩ := List.getElem_of_mem hm
  exact hp k hk
theorem unit_net (h : netOkB n ps = true) : netOkB n (ps.map unitP) = true := by
  refine net_of h (by simp) fun k hk => ?_
  have hk' : k < ps.length := by simpa using hk
  have := pipeOk_iff.1 ((netOk_parts h).2.2.2 _ (List.getElem_mem hk'))
  refine pipeOk_iff.2 ?_
  simp only [List.getElem_map, unitP]
  omega
theorem unit_free (h : netOkB n ps = true) : freeB n (ps.map unitP) = true := by
  simp only [freeB, Bool.and_eq_true, List.all_eq_true, List.mem_map, decide_eq_true_eq]
  refine ⟨unit_net h, ?_⟩
  rintro p ⟨q, -, rfl⟩
  rfl
theorem unit_unit (ps : List Pp) : (ps.map unitP).map unitP = ps.map unitP := by
  rw [List.map_map]
  refine List.map_congr_left fun p _ => ?_
  simp only [Function.comp, unitP]
  congr 1
  omega
theorem unit_turn (ps : List Pp) : (ps.map turnP).map unitP = (ps.map unitP).map turnP := by
  rw [List.map_map, List.map_map]; rfl
theorem out_net (xs : List Int) (h : netOkB n ps = true) : netOkB n (outL xs ps) = true := by
  refine net_of h (outL_len xs ps) fun k hk => ?_
  have hk' : k < ps.length := by rwa [outL_len] at hk
  have := pipeOk_iff.1 ((netOk_parts h).2.2.2 _ (List.getElem_mem hk'))
  rw [outL_at xs hk']
  refine pipeOk_iff.2 ?_
  unfold outP
  split
  · dsimp only; omega
  · omega
theorem outP_twice (xs : List Int) (k : Nat) (p : Pp) : outP xs k (outP xs k p) = outP xs k p := by
  unfold outP
  split <;> rfl
theorem out_out (xs : List Int) (ps : List Pp) : outL xs (outL xs ps) = outL xs ps := by
  refine List.ext_getElem (by rw [outL_len]) fun k h1 h2 => ?_
  have hk : k < ps.length := by rwa [outL_len] at h2
  rw [outL_at xs (by rw [outL_len]; exact hk), outL_at xs hk, outP_twice]
theorem out_places (h : outB n ps xs = true) : outB n (outL xs ps) xs = true := by
  obtain ⟨h1, h2⟩ := outB_parts h
  simp only [outB, placesB, outL_len, Bool.and_eq_true]
  exact ⟨out_net xs h1, h2⟩
theorem unit_outP (xs : List Int) (k : Nat) (p : Pp) : unitP (outP xs k p) = outP xs k (unitP p) := by
  unfold outP
  split
  · rfl
  · rfl
theorem unit_out (xs : List Int) (ps : List Pp) : (outL xs ps).map unitP = outL xs (ps.map unitP) := by
  refine List.ext_getElem (by rw [List.length_map, outL_len, outL_len, List.length_map]) fun k h1 h2 => ?_
  have hk : k < ps.length := by rw [outL_len, List.length_map] at h2; exact h2
  rw [List.getElem_map, outL_at xs hk, outL_at xs (by rw [List.length_map]; exact hk), List.getElem_map, unit_outP]
end

end Go.Proofs.Ytabkhpeoeihmmaa
