/- Plain facts. -/
import Derived.Test.YtobbeofibkpbaaaGZ25
import Derived.Test.YtobbeofibkpbaaaGZ5
/- Plain facts of chapter 11: unit nets, and nets with emptied pipes. -/
namespace Go.Proofs.Ytobbeofibkpbaaa
open Go.RowKit

def unitP (p : Pp) : Pp := ⟨p.fr, p.to, 0, min p.mo 1, p.co⟩
def unitN (n : Int) (ps : List Pp) : Int := if netOkB n ps = true then n else 0
def unitL (n : Int) (ps : List Pp) : List Pp := if netOkB n ps = true then ps.map unitP else []
section
variable {n a b : Int} {ps qs : List Pp} {xs : List Int} {k : Nat}
theorem unit_no (h : netOkB n ps = false) : unitN n ps = 0 ∧ unitL n ps = [] := by simp [unitN, unitL, h]
theorem unit_yes (h : netOkB n ps = true) : unitN n ps = n ∧ unitL n ps = ps.map unitP := by simp [unitN, unitL, h]
theorem unit_getD (ps : List Pp) (hk : k < ps.length) : (ps.map unitP).getD k zeroPp = unitP (ps.getD k zeroPp) := by
  rw [List.getD_eq_getElem?_getD, List.getD_eq_getElem?_getD, List.getElem?_eq_getElem (by simpa using hk), List.getElem?_eq_getElem hk]
  simp

theorem net_of (h : netOkB n ps = true) (hl : qs.length = ps.length) (hp : ∀ (k : Nat) (hk : k < qs.length), pipeOkB n qs[k].fr qs[k].to qs[k].le qs[k].mo qs[k].co = true) : netOkB n qs = true := by
  obtain ⟨n2, n5, l7, -⟩ := netOk_parts h
  simp only [netOkB, withinB, Bool.and_eq_true, decide_eq_true_eq, List.all_eq_true]
  refine ⟨⟨⟨n2, n5⟩, by omega⟩, fun p hm => ?_⟩
  obtain ⟨k, hk, rfl⟩ := List.getElem_of_mem hm
  exact hp k hk
theorem unit_net (h : netOkB n ps = true) : netOkB n (ps.map unitP) = true := by
  refine net_of h (by simp) fun k hk => ?_
  have hk' : k < ps.length := by simpa using hk
  have := pipeOk_iff.1 ((netOk_parts h).2.2.2 _ (List.getElem_mem hk'))
  refine pipeOk_iff.2 ?_
  simp only [List.getElem_map, unitP]
  omega
theorem unit_free (h : netOkB n ps = true) : freeB n (ps.map unitP) = true := by
  simp only [freeB, Bool.and_eq_true, List.all_eq_true, List.mem_map, decide_eq_true_eq]
  refine ⟨unit_net h, ?_⟩
  rintro p ⟨q, -, rfl⟩
  rfl
theorem unit_turn (ps : List Pp) : (ps.map turnP).map unitP = (ps.map unitP).map turnP := by
  rw [List.map_map, List.map_map]; rfl
end

end Go.Proofs.Ytobbeofibkpbaaa

/- Plain facts of chapter 11: fewest blocks. -/
namespace Go.Proofs.Ytobbeofibkpbaaa
open Go.RowKit

/-- pipes that leave a side and hold something -/
def heldF (s : Int) (us : List Pp) (k : Nat) : Bool := leavF s us k && decide (0 < (us.getD k zeroPp).mo)
def blkL (s : Int) (us : List Pp) : List Int := numW us.length (heldF s us)
/-- one unit at most in each pipe -/
def unitB (us : List Pp) : Prop := ∀ k, k < us.length → (us.getD k zeroPp).le = 0 ∧ 0 ≤ (us.getD k zeroPp).mo ∧ (us.getD k zeroPp).mo ≤ 1

section
variable {n a b s : Int} {ps us : List Pp} {xs : List Int} {k : Nat}
theorem unit_unitB (h : netOkB n ps = true) : unitB (ps.map unitP) := fun k hk => by
  have hk' : k < ps.length := by simpa using hk
  have := pipeOk_iff.1 ((netOk_parts h).2.2.2 _ (List.getElem_mem hk'))
  rw [unit_getD ps hk', List.getD_eq_getElem?_getD, List.getElem?_eq_getElem hk']
  show (0 : Int) = 0 ∧ 0 ≤ min ps[k].mo 1 ∧ min ps[k].mo 1 ≤ 1
  omega
theorem getD_el (hk : k < us.length) : us.getD k zeroPp = us[k] := by rw [List.getD_eq_getElem?_getD, List.getElem?_eq_getElem hk]; rfl
theorem blk_len (hu : unitB us) : ((blkL s us).length : Int) = room s us := by
  have key : ∀ j, j ≤ us.length → ((numW j (heldF s us)).length : Int) = room s (us.take j) := by
    intro j
    induction j with
    | zero => intro _; simp [numW, room]
    | succ j ih =>
      intro hj
      have hjl : j < us.length := by omega
      have ih := ih (by omega)
      obtain ⟨u1, u2, u3⟩ := hu j hjl
      rw [getD_el hjl] at u1 u2 u3
      rw [room_snoc s us j hjl, ← ih]
      by_cases hl : partsB s us[j].fr us[j].to = true
      · rw [acT_out hl]
        by_cases hm : 0 < us[j].mo
        · rw [numW_yes (by rw [heldF, leavF_at hjl, hl, getD_el hjl]; simpa using hm)]
          simp only [List.length_append, List.length_singleton]
          omega
        · rw [numW_no (by rw [heldF, leavF_at hjl, hl, getD_el hjl]; simpa using hm)]
          omega
      · have hl : partsB s us[j].fr us[j].to = false := by simpa using hl
        rw [numW_no (by rw [heldF, leavF_at hjl, hl]; rfl)]
        by_cases hb : partsB s us[j].to us[j].fr = true
        · rw [acT_back hl hb, u1]; omega
        · rw [acT_no hl (by simpa using hb)]; omega
  have := key us.length (Nat.le_refl _)
  rw [List.take_length] at this
  exact this
theorem least_blk (he : endsB n us a b = true) (hu : unitB us) : 0 ≤ leastI n us a b := by
  obtain ⟨s, -, -, -, e⟩ := least_at he
  rw [e, ← blk_len hu]
  exact Int.natCast_nonneg _
theorem unit_ends2 (he : endsB n ps a b = true) : endsB n (ps.map unitP) a b = true := by
  have hn := (ends_parts he).1
  simp only [endsB, Bool.and_eq_true] at he ⊢
  exact ⟨⟨⟨unit_net hn, he.1.1.2⟩, he.1.2⟩, he.2⟩
end

end Go.Proofs.Ytobbeofibkpbaaa

/- Contracts of the functions of chapter 11 in the program: how a pipe is made again. -/
namespace Go.Proofs.Ytobbeofibkpbaaa
open Go.RowKit

set_option maxHeartbeats 1000000 in
set_option maxRecDepth 20000 in
theorem unitFn_any (k : Int) (p : Pp) (w : World) :
    Calls Try.prog 108 #[.int .i64 k, .agg #[.int .i64 p.fr, .int .i64 p.to, .int .i64 p.le, .int .i64 p.mo, .int .i64 p.co]] w fun e w' => e = .returned (.agg #[.int .i64 (unitP p).fr, .int .i64 (unitP p).to, .int .i64 (unitP p).le, .int .i64 (unitP p).mo, .int .i64 (unitP p).co]) ∧ Below w.heap.size w w' := by
  go_enter Try.func108, Try.ntmps108
  go_wp2
  all_goals refine bodyPost_ret (v := .agg #[.int .i64 (unitP p).fr, .int .i64 (unitP p).to, .int .i64 (unitP p).le, .int .i64 (unitP p).mo, .int .i64 (unitP p).co]) (by simp [results, Try.results108, go_sem, unitP]; try omega) rfl ⟨rfl, by (repeat (first | (with_reducible assumption) | (with_reducible exact Below.refl _ _) | ((with_reducible refine Below.alloc ?_ ?hsz _); (case hsz => (first | omega | (simp; done) | (simp; omega) | (simp at *; omega)))) | ((with_reducible refine Below.setCell ?_ ?hsz _); (case hsz => (first | omega | (simp; done) | (simp; omega) | (simp at *; omega)))) | (with_reducible refine Below.drew ?_) | (with_reducible refine below_drewN ?_ _) | ((with_reducible refine Below.trans ?_ (Below.mono (by with_reducible assumption) ?hsz)); (case hsz => (first | omega | (simp; done) | (simp; omega) | (simp at *; omega))))))⟩

end Go.Proofs.Ytobbeofibkpbaaa
