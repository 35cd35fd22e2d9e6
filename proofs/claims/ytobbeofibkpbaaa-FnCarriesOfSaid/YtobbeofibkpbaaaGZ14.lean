/- Plain facts. -/
import Derived.Test.YtobbeofibkpbaaaGZ30
import Derived.Test.YtobbeofibkpbaaaMG
/- Plain facts of chapter 5: sides that block. -/
namespace Go.Proofs.Ytobbeofibkpbaaa
open Go.RowKit

end Go.Proofs.Ytobbeofibkpbaaa

/- Plain facts of chapter 5: circulations, pushed from excess to lack. -/
namespace Go.Proofs.Ytobbeofibkpbaaa
open Go.RowKit

def leastL (ps : List Pp) : List Int := ps.map Pp.le
def excessO (n : Int) (ps : List Pp) (xs : List Int) : Option Nat := (List.range n.toNat).find? fun v : Nat => decide (0 < exc (v : Int) ps xs)
def lackF (n : Int) (ps : List Pp) (xs : List Int) (f v : Nat) : Bool := decide (exc (v : Int) ps xs < 0) && wayB n ps xs f v
def lackO (n : Int) (ps : List Pp) (xs : List Int) (f : Nat) : Option Nat := (List.range n.toNat).find? (lackF n ps xs f)
def amtC (n : Int) (ps : List Pp) (xs : List Int) (f t : Int) : Int := min (min (amtR n ps xs f t) (exc f ps xs)) (-(exc t ps xs))
def pushC (n : Int) (ps : List Pp) (xs : List Int) (f t : Int) : List Int := pushL (amtC n ps xs f t) xs (wayR n ps xs f t)
def nextC (n : Int) (ps : List Pp) (xs : List Int) : Option (List Int) := match excessO n ps xs with
  | none => none
  | some f => match lackO n ps xs f with
    | none => none
    | some t => some (pushC n ps xs f t)
def posE (n : Int) (ps : List Pp) (xs : List Int) : Int := nodeSum n.toNat fun v => max (exc (v : Int) ps xs) 0
def circK (n : Int) (ps : List Pp) : Nat → List Int → Option (List Int)
  | 0, xs => if balB n ps xs = true then some xs else none
  | k + 1, xs => if balB n ps xs = true then some xs else match nextC n ps xs with
    | none => none
    | some ys => circK n ps k ys

theorem nodeSum_le {n : Nat} {f g : Nat → Int} (h : ∀ k, k < n → f k ≤ g k) : nodeSum n f ≤ nodeSum n g := by
  induction n with
  | zero => exact Int.le_refl _
  | succ n ih =>
    rw [nodeSum_succ, nodeSum_succ]
    have := ih fun k hk => h k (by omega)
    have := h n (by omega)
    omega
theorem nodeSum_lt {n : Nat} {f g : Nat → Int} (h : ∀ k, k < n → f k ≤ g k) {a : Nat} (ha : a < n) (h1 : f a < g a) : nodeSum n f < nodeSum n g := by
  induction n with
  | zero => omega
  | succ n ih =>
    rw [nodeSum_succ, nodeSum_succ]
    have h2 := h n (by omega)
    by_cases e : a = n
    · subst e
      have := nodeSum_le (n := a) fun k hk => h k (by omega)
      omega
    · have := ih (fun k hk => h k (by omega)) (by omega)
      omega

section
variable {n : Int} {ps : List Pp} {xs : List Int}

theorem bal_iff (hf : flowOkB n ps xs = true) : balB n ps xs = true ↔ ∀ v : Nat, (v : Int) < n → exc (v : Int) ps xs = 0 := by
  have hn := netOk_parts (flowOk_parts hf).1
  simp only [balB, hf, Bool.true_and, List.all_eq_true, List.mem_range, beq_iff_eq]
  exact ⟨fun h v hv => h v (by omega), fun h v hv => h v (by omega)⟩

theorem excess_some {f : Nat} (h : excessO n ps xs = some f) : f < n.toNat ∧ 0 < exc (f : Int) ps xs ∧ ∀ v, v < f → ¬ 0 < exc (v : Int) ps xs := by
  obtain ⟨h1, i, hi, h2, h3⟩ := List.find?_eq_some_iff_getElem.1 h
  simp only [List.length_range, List.getElem_range] at hi h2 h3
  subst h2
  refine ⟨hi, by simpa using h1, fun v hv => ?_⟩
  have := h3 v hv
  simpa using this

theorem excess_none (hf : flowOkB n ps xs = true) (h : excessO n ps xs = none) : balB n ps xs = true := by
  rw [bal_iff hf]
  have hle : ∀ v : Nat, v < n.toNat → exc (v : Int) ps xs ≤ 0 := by
    intro v hv
    have := List.find?_eq_none.1 h v (by simpa using hv)
    simpa using this
  intro v hv
  have hsum := exc_sum xs (flowOk_parts hf).1
  apply Classical.byContradiction
  intro hne
  have := nodeSum_lt (n := n.toNat) (f := fun k => exc (k : Int) ps xs) (g := fun _ => 0) (fun k hk => hle k hk) (a := v) (by omega) (by have := hle v (by omega); show exc (v : Int) ps xs < 0; omega)
  rw [hsum, nodeSum_zero _ _ (fun _ _ => rfl)] at this
  omega

theorem lack_some {f t : Nat} (h : lackO n ps xs f = some t) : t < n.toNat ∧ exc (t : Int) ps xs < 0 ∧ wayB n ps xs f t = true ∧ ∀ v, v < t → lackF n ps xs f v = false := by
  obtain ⟨h1, i, hi, h2, h3⟩ := List.find?_eq_some_iff_getElem.1 h
  simp only [List.length_range, List.getElem_range] at hi h2 h3
  subst h2
  simp only [lackF, Bool.and_eq_true, decide_eq_true_eq] at h1
  exact ⟨hi, h1.1, h1.2, fun v hv => by simpa using h3 v hv⟩
theorem lack_none {f : Nat} (h : lackO n ps xs f = none) : ∀ v, v < n.toNat → exc (v : Int) ps xs < 0 → wayB n ps xs f v = false := by
  intro v hv h0
  have := List.find?_eq_none.1 h v (by simpa using hv)
  simpa [lackF, h0] using this

/-- a push from an excess to a lack -/
theorem pushC_ok {f t : Nat} (hf : f < n.toNat) (h1 : 0 < exc (f : Int) ps xs) (h2 : exc (t : Int) ps xs < 0) (hw : wayB n ps xs f t = true) :
    1 ≤ amtC n ps xs f t ∧ amtC n ps xs f t ≤ amtR n ps xs f t ∧ holdsB n ps (pushC n ps xs f t) = true ∧ posE n ps (pushC n ps xs f t) < posE n ps xs ∧
    (∀ v, exc v ps (pushC n ps xs f t) = exc v ps xs + (if v = t then amtC n ps xs f t else 0) - (if v = f then amtC n ps xs f t else 0)) := by
  have hh := (wayB_parts hw).1
  have hn := holds_net hh
  have hi := (holds_inB hn).1 hh
  obtain ⟨l1, l2, l3, l4, l5⟩ := wayR_ok hw
  obtain ⟨m1, m2, m3⟩ := amtR_pos hw
  have a1 : 1 ≤ amtC n ps xs f t := by unfold amtC; omega
  have a2 : amtC n ps xs f t ≤ amtR n ps xs f t := by unfold amtC; omega
  have a3 : amtC n ps xs f t ≤ exc (f : Int) ps xs := by unfold amtC; omega
  have a4 : amtC n ps xs f t ≤ -exc (t : Int) ps xs := by unfold amtC; omega
  have he : ∀ v, exc v ps (pushC n ps xs f t) = exc v ps xs + (if v = t then amtC n ps xs f t else 0) - (if v = f then amtC n ps xs f t else 0) := fun v => exc_pushL hn hi.1 l3
  refine ⟨a1, a2, (holds_inB hn).2 (pushL_inB (by omega) hi (fun s hs => ⟨(l4 s hs).1, Int.le_trans a2 (m3 s hs)⟩) l5), ?_, he⟩
  refine nodeSum_lt (fun k _ => ?_) hf ?_
  · show max (exc (k : Int) ps (pushC n ps xs f t)) 0 ≤ max (exc (k : Int) ps xs) 0
    rw [he]
    by_cases e1 : (k : Int) = t
    · rw [e1]
      have : ¬ (t : Int) = f := by intro e; rw [e] at h2; omega
      rw [if_pos rfl, if_neg this]
      omega
    · rw [if_neg e1]
      split <;> omega
  · show max (exc (f : Int) ps (pushC n ps xs f t)) 0 < max (exc (f : Int) ps xs) 0
    rw [he]
    have : ¬ (f : Int) = t := by intro e; rw [← e] at h2; omega
    rw [if_neg this, if_pos rfl]
    omega

theorem next_some {ys : List Int} (h : nextC n ps xs = some ys) : ∃ f t : Nat, excessO n ps xs = some f ∧ lackO n ps xs f = some t ∧ ys = pushC n ps xs f t := by
  unfold nextC at h
  split at h
  · simp at h
  · next f hf =>
    split at h
    · simp at h
    · next t ht => exact ⟨f, t, hf, ht, by injection h with h; exact h.symm⟩

theorem next_ok {ys : List Int} (h : nextC n ps xs = some ys) : holdsB n ps ys = true ∧ posE n ps ys < posE n ps xs := by
  obtain ⟨f, t, hf, ht, rfl⟩ := next_some h
  obtain ⟨f1, f2, -⟩ := excess_some hf
  obtain ⟨t1, t2, t3, -⟩ := lack_some ht
  have := pushC_ok f1 f2 t2 t3
  exact ⟨this.2.2.1, this.2.2.2.1⟩

theorem posE_zero (hf : flowOkB n ps xs = true) (h : posE n ps xs ≤ 0) : balB n ps xs = true := by
  refine excess_none hf (Option.eq_none_iff_forall_ne_some.2 fun f he => ?_)
  obtain ⟨f1, f2, -⟩ := excess_some he
  have := nodeSum_lt (n := n.toNat) (f := fun _ => 0) (g := fun v => max (exc (v : Int) ps xs) 0) (fun k _ => by show (0 : Int) ≤ max _ 0; omega) f1 (by show (0 : Int) < max (exc (f : Int) ps xs) 0; omega)
  rw [nodeSum_zero _ _ (fun _ _ => rfl)] at this
  unfold posE at h
  omega

theorem posE_bd (hf : flowOkB n ps xs = true) : posE n ps xs ≤ 1400 := by
  obtain ⟨hn, hl, ha⟩ := flowOk_parts hf
  have hb := netOk_parts hn
  have h := nodeSum_le (n := n.toNat) (f := fun v => max (exc (v : Int) ps xs) 0) (g := fun _ => 280) fun k _ => by
    have := exc_bd (k : Int) ps xs ha
    show max (exc (k : Int) ps xs) 0 ≤ 280
    omega
  have e : ∀ m : Nat, nodeSum m (fun _ => 280) = 280 * (m : Int) := by
    intro m
    induction m with
    | zero => rfl
    | succ m ih => rw [nodeSum_succ, ih]; push_cast; omega
  rw [e] at h
  unfold posE
  omega

/-- a stuck excess: the reached side blocks -/
theorem stuck {f : Nat} (hh : holdsB n ps xs = true) (hf : f < n.toNat) (h1 : 0 < exc (f : Int) ps xs) (h2 : ∀ v, v < n.toNat → exc (v : Int) ps xs < 0 → wayB n ps xs f v = false) :
    ∃ s, 0 ≤ s ∧ s ≤ 2 ^ n.toNat - 1 ∧ room s ps < 0 := by
  have hn := holds_net hh
  have hb := netOk_parts hn
  have hr : reachB n ps xs f = true := by simp [reachB, hh, withinB]; omega
  have hi := (holds_inB hn).1 hh
  have hfull : across (reachI n ps xs f) ps xs = room (reachI n ps xs f) ps := (full_iff hi _).2 fun t ht hr1 hf => reach_closed hr ht hr1 hf
  have hin := reach_in n ps xs f
  refine ⟨_, hin.1, hin.2, ?_⟩
  have hx := across_exc (s := reachI n ps xs f) xs hn
  have hpos : 0 < sideExc n.toNat (reachI n ps xs f) ps xs := by
    have := nodeSum_lt (n := n.toNat) (f := fun _ => 0) (g := fun k => if bitB (reachI n ps xs f) k = true then exc k ps xs else 0) (fun k hk => by
      show (0 : Int) ≤ if bitB (reachI n ps xs f) k = true then exc k ps xs else 0
      split
      · next hbit =>
        apply Classical.byContradiction
        intro hneg
        have hw := h2 k hk (by omega)
        have hreach := (reach_bit hr (v := (k : Int)) (by omega) (by omega)).1 hbit
        rw [← inK_iff (n := n.toNat) (by omega) (edg_in hn xs)] at hreach
        have hne : (f : Int) ≠ k := by intro e; rw [← e] at hneg; omega
        have he : endsB n ps f k = true := by simp [endsB, hn, withinB]; omega
        simp [wayB, hh, he, dis] at hw
        omega
      · omega) hf (by
      show (0 : Int) < if bitB (reachI n ps xs f) f = true then exc f ps xs else 0
      rw [if_pos (reach_self hr)]; exact h1)
    rw [nodeSum_zero _ _ (fun _ _ => rfl)] at this
    exact this
  omega

/-- a side that blocks: no flow that all pipes hold is balanced -/
theorem blocked {s : Int} (h : room s ps < 0) {ys : List Int} (hh : holdsB n ps ys = true) : balB n ps ys = false := by
  rw [Bool.eq_false_iff]
  intro hb
  have hn := holds_net hh
  have hp := holds_parts hh
  have h1 := across_room (s := s) hp.2.1 hp.2.2
  have h2 := across_exc (s := s) ys hn
  rw [bal_iff hp.1] at hb
  have hbn := netOk_parts hn
  have h3 : sideExc n.toNat s ps ys = 0 := nodeSum_zero _ _ fun k hk => by rw [hb k (by omega)]; simp
  omega

theorem circK_stay (k : Nat) : ∀ {xs : List Int}, holdsB n ps xs = true → posE n ps xs ≤ k → ∀ j, circK n ps (k + j) xs = circK n ps k xs := by
  induction k with
  | zero =>
    intro xs h hk j
    have hb := posE_zero (holds_parts h).1 hk
    cases j with
    | zero => rfl
    | succ j => rw [Nat.zero_add, circK, circK, if_pos hb, if_pos hb]
  | succ k ih =>
    intro xs h hk j
    rw [show k + 1 + j = (k + j) + 1 by omega, circK, circK]
    split
    · rfl
    · cases hn : nextC n ps xs with
      | none => rfl
      | some ys =>
        have := next_ok hn
        exact ih this.1 (by omega) j

/-- what comes of pushes from a flow -/
def circF (n : Int) (ps : List Pp) (xs : List Int) : Option (List Int) := circK n ps 1400 xs

theorem circF_ok (hh : holdsB n ps xs = true) {ys : List Int} (h : circF n ps xs = some ys) : holdsB n ps ys = true ∧ balB n ps ys = true := by
  unfold circF at h
  generalize 1400 = k at h
  induction k generalizing xs with
  | zero =>
    rw [circK] at h
    split at h
    · next hb => injection h with h; subst h; exact ⟨hh, hb⟩
    · simp at h
  | succ k ih =>
    rw [circK] at h
    split at h
    · next hb => injection h with h; subst h; exact ⟨hh, hb⟩
    · split at h
      · simp at h
      · next zs hz => exact ih (next_ok hz).1 h
theorem circF_none (hh : holdsB n ps xs = true) (h : circF n ps xs = none) : ∃ s, 0 ≤ s ∧ s ≤ 2 ^ n.toNat - 1 ∧ room s ps < 0 := by
  unfold circF at h
  have hpos := posE_bd (holds_parts hh).1
  have key : ∀ (k : Nat) (xs : List Int), holdsB n ps xs = true → posE n ps xs ≤ k → circK n ps k xs = none → ∃ s, 0 ≤ s ∧ s ≤ 2 ^ n.toNat - 1 ∧ room s ps < 0 := by
    intro k
    induction k with
    | zero =>
      intro xs hh hk h
      rw [circK, if_pos (posE_zero (holds_parts hh).1 hk)] at h
      simp at h
    | succ k ih =>
      intro xs hh hk h
      rw [circK] at h
      split at h
      · simp at h
      · next hb =>
        split at h
        · next hnx =>
          unfold nextC at hnx
          split at hnx
          · next he => exact absurd (excess_none (holds_parts hh).1 he) hb
          · next f he =>
            split at hnx
            · next hl =>
              obtain ⟨f1, f2, -⟩ := excess_some he
              exact stuck hh f1 f2 (lack_none hl)
            · simp at hnx
        · next ys hy =>
          have := next_ok hy
          exact ih ys this.1 (by omega) h
  exact key 1400 xs hh hpos h

theorem least_holds (hn : netOkB n ps = true) : holdsB n ps (leastL ps) = true := by
  have hr := net_rooms hn
  refine (holds_inB hn).2 ⟨by simp [leastL], fun j hj => ?_⟩
  have := hr ps[j] (List.getElem_mem hj)
  have e : (leastL ps).getD j 0 = ps[j].le := by simp [leastL, List.getD, List.getElem?_eq_getElem hj]
  rw [e]
  omega

/-- what CirculationOf answers -/
def circO (n : Int) (ps : List Pp) : Option (List Int) := if netOkB n ps = true then circF n ps (leastL ps) else none
def circB (n : Int) (ps : List Pp) : Bool := (circO n ps).isSome
def circL (n : Int) (ps : List Pp) : List Int := (circO n ps).getD []

theorem circO_yes (hn : netOkB n ps = true) : circO n ps = circF n ps (leastL ps) := by rw [circO, if_pos hn]
theorem circO_no (hn : netOkB n ps = false) : circO n ps = none := by rw [circO, if_neg (by simp [hn])]
theorem circ_some {ys : List Int} (h : circO n ps = some ys) : circB n ps = true ∧ circL n ps = ys := by simp [circB, circL, h]
theorem circ_none (h : circO n ps = none) : circB n ps = false ∧ circL n ps = [] := by simp [circB, circL, h]
theorem circ_ok (h : circB n ps = true) : netOkB n ps = true ∧ holdsB n ps (circL n ps) = true ∧ balB n ps (circL n ps) = true := by
  cases ho : circO n ps with
  | none => rw [(circ_none ho).1] at h; simp at h
  | some ys =>
    rw [(circ_some ho).2]
    unfold circO at ho
    split at ho
    · next hn => exact ⟨hn, circF_ok (least_holds hn) ho⟩
    · simp at ho
theorem circ_no (h : circB n ps = false) : circO n ps = none := by
  unfold circB at h
  cases ho : circO n ps with
  | none => rfl
  | some ys => simp [ho] at h
theorem circ_blocks (hn : netOkB n ps = true) : circB n ps = false ↔ ∃ s, 0 ≤ s ∧ s ≤ 2 ^ n.toNat - 1 ∧ room s ps < 0 := by
  refine ⟨fun h => ?_, fun ⟨s, _, _, hs⟩ => ?_⟩
  · have ho := circ_no h
    rw [circO_yes hn] at ho
    exact circF_none (least_holds hn) ho
  · rw [Bool.eq_false_iff]
    intro h
    have := circ_ok h
    rw [blocked hs this.2.1] at this
    simp at this
end

end Go.Proofs.Ytobbeofibkpbaaa
