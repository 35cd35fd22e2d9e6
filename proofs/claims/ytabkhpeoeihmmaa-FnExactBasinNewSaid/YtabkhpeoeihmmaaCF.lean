/- Plain facts, chapter 12: new basins, all steps, what is spilled, the side from which nothing comes to the end. -/
import Derived.Test.YtabkhpeoeihmmaaCE
namespace Go.Proofs.Ytabkhpeoeihmmaa
open Go.RowKit

def newT (a : Int) (p : Pp) : Int := if p.fr = a then p.mo else 0
def newX (ps : List Pp) (a : Int) : List Int := ps.map (newT a)
def newH (n a : Int) : List Int := (List.replicate n.toNat 0).set a.toNat n
/-- the basin of before all steps, or nothing -/
def bnewX (n : Int) (ps : List Pp) (a b : Int) : List Int := if greatB n ps a b = true then newX ps a else []
def bnewH (n : Int) (ps : List Pp) (a b : Int) : List Int := if greatB n ps a b = true then newH n a else []

/-- steps as long as there is one: the basin, and how many there were -/
def runN (n : Int) (ps : List Pp) (a b : Int) : Nat → List Int × List Int → (List Int × List Int) × Nat
  | 0, q => (q, 0)
  | k + 1, q => if anyFull n a b ps q.1 = true then ((runN n ps a b k (stepR n ps a b q)).1, (runN n ps a b k (stepR n ps a b q)).2 + 1) else (q, 0)
def basRun (n : Int) (ps : List Pp) (a b : Int) : (List Int × List Int) × Nat := runN n ps a b 30001 (newX ps a, newH n a)
def runX (n : Int) (ps : List Pp) (a b : Int) : List Int := if greatB n ps a b = true then (basRun n ps a b).1.1 else []
def runH (n : Int) (ps : List Pp) (a b : Int) : List Int := if greatB n ps a b = true then (basRun n ps a b).1.2 else []
def runC (n : Int) (ps : List Pp) (a b : Int) : Int := if greatB n ps a b = true then (basRun n ps a b).2 else -1
def spillV (n : Int) (ps : List Pp) (a b : Int) : Int := if greatB n ps a b = true then exc b ps (runX n ps a b) else -1

section
variable {n a b v : Int} {ps : List Pp} {xs hs : List Int} {s : Nat}

theorem newX_len (ps : List Pp) (a : Int) : (newX ps a).length = ps.length := by simp [newX]
theorem newH_len (n a : Int) : (newH n a).length = n.toNat := by simp [newH]
theorem newX_at {k : Nat} (hk : k < ps.length) : (newX ps a).getD k 0 = newT a ps[k] := by
  rw [List.getD_eq_getElem?_getD, List.getElem?_eq_getElem (by rw [newX_len]; exact hk)]
  simp [newX]
theorem newH_at (a0 : 0 ≤ a) (a1 : a < n) (k : Nat) (hk : k < n.toNat) : (newH n a).getD k 0 = if a.toNat = k then n else 0 := by
  rw [newH, getD_set _ _ _ _ _ (by simp; omega)]
  split
  · rfl
  · rw [List.getD_eq_getElem?_getD, List.getElem?_replicate, if_pos hk]; rfl

theorem exc_new (h : ∀ p ∈ ps, 0 ≤ p.le ∧ p.le ≤ p.mo ∧ p.mo ≤ 4) {k : Int} (hk : k ≠ a) : 0 ≤ exc k ps (newX ps a) := by
  induction ps with
  | nil => simp [exc_nil1]
  | cons p ps ih =>
    have h1 := ih (fun q hq => h q (by simp [hq]))
    have h2 := h p (by simp)
    rw [newX, List.map_cons, exc_cons]
    have h3 : 0 ≤ excT k p (newT a p) := by
      unfold excT newT
      repeat' split
      all_goals omega
    unfold newX at h1
    omega
theorem exc_new_first (a0 : 0 ≤ a) (hn : n ≤ 5) (a1 : a < n) (h : ∀ p ∈ ps, endsIn n p) (hl : ∀ p ∈ ps, p.le = 0) : exc a ps (newX ps a) = -room (2 ^ a.toNat) ps := by
  induction ps with
  | nil => simp [exc_nil1, room]
  | cons p ps ih =>
    have h1 := ih (fun q hq => h q (by simp [hq])) (fun q hq => hl q (by simp [hq]))
    have h2 := h p (by simp)
    have h3 := hl p (by simp)
    unfold endsIn at h2
    rw [newX, List.map_cons, exc_cons, room_cons]
    have hbit : ∀ y : Int, 0 ≤ y → y < n → bitB (2 ^ a.toNat) y = decide (y = a) := fun y y0 y1 => by
      have := pow_bit (k := a.toNat) (v := y.toNat) (by omega) (by omega)
      rw [show ((y.toNat : Nat) : Int) = y by omega] at this
      rw [this]
      apply Bool.eq_iff_iff.2
      simp only [decide_eq_true_eq]
      omega
    have h4 : excT a p (newT a p) = -acT (2 ^ a.toNat) p p.mo p.le := by
      unfold excT acT newT partsB
      rw [hbit _ h2.1 h2.2.1, hbit _ h2.2.2.1 h2.2.2.2.1, h3]
      by_cases c1 : p.fr = a
      · simp [c1]
        have : ¬ a = p.to := by omega
        have : ¬ p.to = a := by omega
        simp [*]
      · by_cases c2 : p.to = a
        · simp [c1, c2]
        · have : ¬ a = p.to := fun hh => c2 hh.symm
          have : ¬ a = p.fr := fun hh => c1 hh.symm
          simp [*]
    unfold newX at h1
    omega

theorem free_le (h : freeB n ps = true) : ∀ p ∈ ps, p.le = 0 := by
  simp only [freeB, Bool.and_eq_true, List.all_eq_true, decide_eq_true_eq] at h
  exact h.2

/-- new basins are basins -/
theorem new_bas (h : greatB n ps a b = true) : basB n ps a b (newX ps a) (newH n a) = true ∧ lowB n (newH n a) := by
  obtain ⟨hn, n2, n5, a0, a1, b0, b1, hab⟩ := net_of_great h
  have hr := net_rooms hn
  have hl := free_le (great_parts h).1
  have hga : hgt (newH n a) a = n := by rw [hgt, newH_at a0 a1 _ (by omega), if_pos rfl]
  have hgo : ∀ y, 0 ≤ y → y < n → y ≠ a → hgt (newH n a) y = 0 := fun y y0 y1 hy => by rw [hgt, newH_at a0 a1 _ (by omega), if_neg (by omega)]
  refine ⟨bas_of h ?_ (lack_iff.2 fun k _ _ hk => exc_new hr hk) (hgt_iff.2 ⟨by rw [newH_len]; omega, fun k hk => ?_, hga, hgo b b0 b1 (by omega)⟩) (steep_iff.2 fun s s1 s2 => ?_), fun k hk => ?_⟩
  · exact holds_map n ps (newT a) hn (fun p hp => by
      have := hr p hp
      have := hl p hp
      unfold newT
      split <;> omega)
  · rw [newH_len] at hk
    rw [newH_at a0 a1 k hk]
    split <;> omega
  · obtain ⟨e1, e2, e3⟩ := st_ends hn s1
    by_cases c : stFr ps s = a
    · exfalso
      obtain ⟨k, hk, -, hc⟩ := st_cases ps s s1
      have hx := newX_at (a := a) hk
      have hlk := hl ps[k] (List.getElem_mem hk)
      have he := net_endsIn hn ps[k] (List.getElem_mem hk)
      unfold endsIn at he
      unfold newT at hx
      rcases hc with ⟨-, c1, c2, c3⟩ | ⟨-, c1, c2, c3⟩ <;> rw [c3, hx] at s2
      · rw [if_neg (by rw [c1] at c; omega)] at s2
        omega
      · rw [if_pos (by rw [c1] at c; exact c)] at s2
        omega
    · rw [hgo _ e1.1 e1.2 c]
      by_cases c2 : stTo ps s = a
      · rw [c2, hga]; omega
      · rw [hgo _ e2.1 e2.2 c2]; omega
  · rw [newH_len] at hk
    rw [newH_at a0 a1 k hk]
    split <;> omega

theorem full_cons {q : List Int × List Int} (h : anyFull n a b ps q.1 = true) : ∃ (v : Nat) (l : List Nat), fullL n a b ps q.1 = v :: l := by
  unfold anyFull at h
  cases hf : fullL n a b ps q.1 with
  | nil => rw [hf] at h; simp at h
  | cons v l => exact ⟨v, l, rfl⟩
theorem stepR_mu {q : List Int × List Int} (h : basB n ps a b q.1 q.2 = true) (hf : anyFull n a b ps q.1 = true) : muI n ps (stepR n ps a b q).1 (stepR n ps a b q).2 < muI n ps q.1 q.2 := by
  obtain ⟨v, l, he⟩ := full_cons hf
  obtain ⟨h1, h2, h3, h4⟩ := fullL_head he
  rw [stepR, he]
  exact stepAt_mu h (by omega) h1 h2 h4

theorem runN_end (k : Nat) {q : List Int × List Int} (h : basB n ps a b q.1 q.2 = true) (hk : muI n ps q.1 q.2 < k) : anyFull n a b ps (runN n ps a b k q).1.1 = false := by
  induction k generalizing q with
  | zero =>
    have := (mu_bd h).1
    omega
  | succ k ih =>
    rw [runN]
    by_cases hf : anyFull n a b ps q.1 = true
    · rw [if_pos hf]
      have := stepR_mu h hf
      exact ih (stepR_bas h) (by omega)
    · rw [if_neg hf]
      simpa using hf
theorem runN_bas (k : Nat) {q : List Int × List Int} (h : basB n ps a b q.1 q.2 = true) (hl : lowB n q.2) : basB n ps a b (runN n ps a b k q).1.1 (runN n ps a b k q).1.2 = true ∧ lowB n (runN n ps a b k q).1.2 := by
  induction k generalizing q with
  | zero => exact ⟨h, hl⟩
  | succ k ih =>
    rw [runN]
    split
    · exact ih (stepR_bas h) (stepR_low h hl)
    · exact ⟨h, hl⟩
theorem runN_len (k : Nat) (q : List Int × List Int) : (runN n ps a b k q).2 ≤ k := by
  induction k generalizing q with
  | zero => exact Nat.le_refl _
  | succ k ih =>
    rw [runN]
    split
    · have := ih (stepR n ps a b q)
      simp only
      omega
    · simp
theorem runN_step (k : Nat) {q : List Int × List Int} (hf : anyFull n a b ps q.1 = true) : (runN n ps a b (k + 1) q).1 = (runN n ps a b k (stepR n ps a b q)).1 ∧ (runN n ps a b (k + 1) q).2 = (runN n ps a b k (stepR n ps a b q)).2 + 1 := by
  rw [runN, if_pos hf]
  exact ⟨rfl, rfl⟩
theorem runN_no (k : Nat) {q : List Int × List Int} (hf : anyFull n a b ps q.1 = false) : runN n ps a b k q = (q, 0) := by
  cases k with
  | zero => rfl
  | succ k => rw [runN, if_neg (by simp [hf])]

theorem run_yes (h : greatB n ps a b = true) : runX n ps a b = (basRun n ps a b).1.1 ∧ runH n ps a b = (basRun n ps a b).1.2 ∧ runC n ps a b = ((basRun n ps a b).2 : Int) := by
  simp [runX, runH, runC, h]
theorem run_no (h : greatB n ps a b = false) : runX n ps a b = [] ∧ runH n ps a b = [] ∧ runC n ps a b = -1 := by
  simp [runX, runH, runC, h]
theorem bnew_yes (h : greatB n ps a b = true) : bnewX n ps a b = newX ps a ∧ bnewH n ps a b = newH n a := by
  simp [bnewX, bnewH, h]
theorem bnew_no (h : greatB n ps a b = false) : bnewX n ps a b = [] ∧ bnewH n ps a b = [] := by
  simp [bnewX, bnewH, h]

/-- in the end nothing is too much anywhere -/
theorem run_end (h : greatB n ps a b = true) : basB n ps a b (runX n ps a b) (runH n ps a b) = true ∧ lowB n (runH n ps a b) ∧ anyFull n a b ps (runX n ps a b) = false ∧ onlyTwo n ps (runX n ps a b) a b ∧ 0 ≤ runC n ps a b ∧ runC n ps a b ≤ 30001 := by
  obtain ⟨e1, e2, e3⟩ := run_yes h
  obtain ⟨nb, nl⟩ := new_bas h
  obtain ⟨r1, r2⟩ := runN_bas 30001 (q := (newX ps a, newH n a)) nb nl
  have hm := (mu_bd nb).2
  have r3 := runN_end 30001 (q := (newX ps a, newH n a)) nb (by simp only; omega)
  have r4 := runN_len (n := n) (a := a) (b := b) (ps := ps) 30001 (newX ps a, newH n a)
  rw [e1, e2, e3]
  refine ⟨r1, r2, r3, fun v v0 v1 va vb => ?_, by omega, ?_⟩
  · have q1 := lack_iff.1 (bas_parts r1).2.2.1 v v0 v1 va
    have : fullL n a b ps (basRun n ps a b).1.1 = [] := by
      have := r3
      simp only [anyFull, Bool.not_eq_false', List.isEmpty_iff] at this
      exact this
    have := fullL_nil this v0 v1 va vb
    unfold basRun at *
    omega
  · unfold basRun
    omega

/-- two roads lead to the greatest flow -/
theorem spill_is (h : greatB n ps a b = true) : spillV n ps a b = leastI n ps a b ∧ spillV n ps a b = greatV n ps a b ∧ 0 ≤ spillV n ps a b := by
  obtain ⟨r1, r2, r3, r4, -⟩ := run_end h
  have h1 := (end_cut (great_parts h).2 (bas_parts r1).2.1 r4 (bas_no_way r1)).2.2.2.2
  have h2 : spillV n ps a b = leastI n ps a b := by rw [spillV, if_pos h]; exact h1
  obtain ⟨hn, n2, n5, a0, a1, b0, b1, hab⟩ := net_of_great h
  have h3 := lack_iff.1 (bas_parts r1).2.2.1 b b0 b1 (by omega)
  exact ⟨h2, by rw [h2, great_cut h], by rw [spillV, if_pos h]; exact h3⟩

/-- the nodes from which no way leads to the end -/
def noWayF (n : Int) (ps : List Pp) (xs : List Int) (b : Int) (k : Nat) : Bool := decide ((k : Int) ≠ b) && !wayB n ps xs (k : Int) b
def noWayI (n : Int) (ps : List Pp) (xs : List Int) (b : Int) : Int := sideOf (noWayF n ps xs b) n.toNat
theorem noWay_in (n : Int) (ps : List Pp) (xs : List Int) (b : Int) : 0 ≤ noWayI n ps xs b ∧ noWayI n ps xs b ≤ 2 ^ n.toNat - 1 := sideOf_in _ _
theorem way_iff (hh : holdsB n ps xs = true) (a0 : 0 ≤ a) (a1 : a < n) (b0 : 0 ≤ b) (b1 : b < n) (hab : a ≠ b) : wayB n ps xs a b = true ↔ ∃ m, inK (edgL ps xs) m a b = true := by
  have hn := holds_net hh
  have n5 := netOk_parts hn
  have he : endsB n ps a b = true := by simp [endsB, hn, withinB, hab]; omega
  rw [← inK_iff (n := n.toNat) (by omega) (edg_in hn xs)]
  simp [wayB, hh, he, dis]
theorem noWay_bit (hh : holdsB n ps xs = true) (v0 : 0 ≤ v) (v1 : v < n) (b0 : 0 ≤ b) (b1 : b < n) : bitB (noWayI n ps xs b) v = true ↔ v ≠ b ∧ ∀ m, inK (edgL ps xs) m v b = false := by
  have n5 := netOk_parts (holds_net hh)
  have ev : ((v.toNat : Nat) : Int) = v := by omega
  have hs := sideOf_bit (noWayF n ps xs b) (k := n.toNat) (v := v.toNat) (by omega) (by omega)
  rw [ev] at hs
  rw [noWayI, hs]
  simp only [noWayF, ev, Bool.and_eq_true, decide_eq_true_eq, Bool.not_eq_true']
  constructor
  · rintro ⟨-, hb, hw⟩
    refine ⟨hb, fun m => ?_⟩
    apply Classical.byContradiction
    intro hx
    have := (way_iff hh v0 v1 b0 b1 hb).2 ⟨m, by simpa using hx⟩
    rw [hw] at this
    cases this
  · rintro ⟨hb, hm⟩
    refine ⟨by omega, hb, ?_⟩
    apply Classical.byContradiction
    intro hx
    obtain ⟨m, h2⟩ := (way_iff hh v0 v1 b0 b1 hb).1 (by simpa using hx)
    rw [hm] at h2
    cases h2

/-- P80: it is a narrowest side, within which each narrowest side is -/
theorem noWay_narrow (he : endsB n ps a b = true) (hh : holdsB n ps xs = true) (h : onlyTwo n ps xs a b) (hw : wayB n ps xs a b = false) :
    noWayI n ps xs b ∈ narrowL n ps a b ∧ ∀ t ∈ narrowL n ps a b, ∀ v : Int, 0 ≤ v → v < n → bitB t v = true → bitB (noWayI n ps xs b) v = true := by
  obtain ⟨hn, a0, a1, b0, b1, hab⟩ := ends_parts he
  have hi := (holds_inB hn).1 hh
  have hval := (end_cut he hh h hw).2.2.2.2
  constructor
  · have hcl : ∀ t, t < 2 * ps.length → 0 < stRoom ps xs t → bitB (noWayI n ps xs b) (stFr ps t) = true → bitB (noWayI n ps xs b) (stTo ps t) = true := fun t t1 t2 t3 => by
      obtain ⟨e1, e2, e3⟩ := st_ends hn t1
      obtain ⟨f1, f2⟩ := (noWay_bit hh e1.1 e1.2 b0 b1).1 t3
      have hedge : inK (edgL ps xs) 1 (stFr ps t) (stTo ps t) = true := inK_edge (e := (stFr ps t, stTo ps t)) (edg_mem.2 ⟨t, t1, t2, rfl, rfl⟩)
      refine (noWay_bit hh e2.1 e2.2 b0 b1).2 ⟨fun hc => ?_, fun m => ?_⟩
      · have := f2 1
        rw [hc] at hedge
        rw [hedge] at this
        cases this
      · apply Classical.byContradiction
        intro hx
        have := inK_trans hedge (by simpa using hx : inK (edgL ps xs) m (stTo ps t) b = true)
        rw [f2] at this
        cases this
    have hp : partsB (noWayI n ps xs b) a b = true := by
      simp only [partsB, Bool.and_eq_true, Bool.not_eq_true']
      constructor
      · refine (noWay_bit hh a0 a1 b0 b1).2 ⟨hab, fun m => ?_⟩
        apply Classical.byContradiction
        intro hx
        have := (way_iff hh a0 a1 b0 b1 hab).2 ⟨m, by simpa using hx⟩
        rw [hw] at this
        cases this
      · apply Classical.byContradiction
        intro hx
        exact ((noWay_bit hh b0 b1 b0 b1).1 (by simpa using hx)).1 rfl
    have hf := (full_iff hi (noWayI n ps xs b)).2 hcl
    have hac := two_across he h hp
    exact (narrow_mem he).2 ⟨(noWay_in n ps xs b).1, (noWay_in n ps xs b).2, hp, by omega⟩
  · intro t ht v v0 v1 hv
    obtain ⟨t0, t1, tp, tr⟩ := (narrow_mem he).1 ht
    have hac := two_across he h tp
    have hcl := (full_iff hi t).1 (by omega)
    simp only [partsB, Bool.and_eq_true, Bool.not_eq_true'] at tp
    refine (noWay_bit hh v0 v1 b0 b1).2 ⟨fun hc => ?_, fun m => ?_⟩
    · rw [hc, tp.2] at hv; cases hv
    · apply Classical.byContradiction
      intro hx
      have hx' : inK (edgL ps xs) m v b = true := by simpa using hx
      clear hx
      have : ∀ (m : Nat) (v : Int), inK (edgL ps xs) m v b = true → bitB t v = true → bitB t b = true := by
        intro m
        induction m with
        | zero =>
          intro v hk hb
          have : v = b := by simpa [inK] using hk
          rw [← this]; exact hb
        | succ m ih =>
          intro v hk hb
          rcases inK_succ.1 hk with hk | ⟨e, he, e1, hk⟩
          · exact ih v hk hb
          · obtain ⟨s, s1, s2, s3, s4⟩ := edg_mem.1 he
            refine ih _ hk ?_
            rw [← s4]
            exact hcl s s1 s2 (by rw [s3, e1]; exact hb)
      have := this m v hx' hv
      rw [tp.2] at this
      cases this

theorem bnewX_len : (bnewX n ps a b).length ≤ ps.length := by
  unfold bnewX; split <;> simp [newX_len]
theorem runX_len (n : Int) (ps : List Pp) (a b : Int) : (runX n ps a b).length ≤ 7 ∧ (runH n ps a b).length ≤ 7 := by
  by_cases h : greatB n ps a b = true
  · obtain ⟨r1, -⟩ := run_end h
    obtain ⟨h1, h2, h3, h4, h5⟩ := bas_parts r1
    obtain ⟨hn, n2, n5, -⟩ := net_of_great h1
    have := (holds_parts h2).2.2
    have := (hgt_iff.1 h4).1
    have := (netOk_parts hn).2.2.1
    omega
  · obtain ⟨e1, e2, -⟩ := run_no (by simpa using h)
    rw [e1, e2]; simp
end

end Go.Proofs.Ytabkhpeoeihmmaa
