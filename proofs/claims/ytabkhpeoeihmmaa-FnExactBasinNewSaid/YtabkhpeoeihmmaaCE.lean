/- Plain facts, chapter 12: basins, their steps, and why each step keeps a basin. -/
import Derived.Test.YtabkhpeoeihmmaaMG
namespace Go.Proofs.Ytabkhpeoeihmmaa
open Go.RowKit

/-- the height of a node; by how much a step leads down -/
def hgt (hs : List Int) (v : Int) : Int := hs.getD v.toNat 0
def dropS (ps : List Pp) (hs : List Int) (s : Nat) : Int := hgt hs (stFr ps s) - hgt hs (stTo ps s)
def lackF (a : Int) (ps : List Pp) (xs : List Int) (k : Nat) : Bool := decide ((k : Int) ≠ a) && decide (exc (k : Int) ps xs < 0)
def lackB (n a : Int) (ps : List Pp) (xs : List Int) : Bool := (List.range n.toNat).any (lackF a ps xs)
def hgtB (n a b : Int) (hs : List Int) : Bool := (decide ((hs.length : Int) = n) && hs.all fun h => withinB h 0 (2 * n)) && decide (hgt hs a = n) && decide (hgt hs b = 0)
def steepF (ps : List Pp) (hs : List Int) (s : Nat) : Bool := decide (1 < dropS ps hs s)
def steepB (ps : List Pp) (xs hs : List Int) : Bool := (stL ps xs).any (steepF ps hs)
/-- is it a basin -/
def basB (n : Int) (ps : List Pp) (a b : Int) (xs hs : List Int) : Bool := greatB n ps a b && holdsB n ps xs && (!lackB n a ps xs && hgtB n a b hs && !steepB ps xs hs)

/-- the nodes with too much, the steps from a node, the first one down by 1, the least height ahead -/
def fullF (a b : Int) (ps : List Pp) (xs : List Int) (k : Nat) : Bool := decide ((k : Int) ≠ a) && decide ((k : Int) ≠ b) && decide (0 < exc (k : Int) ps xs)
def fullL (n a b : Int) (ps : List Pp) (xs : List Int) : List Nat := (List.range n.toNat).filter (fullF a b ps xs)
def frF (ps : List Pp) (v : Int) (s : Nat) : Bool := decide (stFr ps s = v)
def frL (ps : List Pp) (xs : List Int) (v : Int) : List Nat := (stL ps xs).filter (frF ps v)
def downF (ps : List Pp) (hs : List Int) (s : Nat) : Bool := decide (dropS ps hs s = 1)
def downS (ps : List Pp) (xs hs : List Int) (v : Int) : Option Nat := (frL ps xs v).find? (downF ps hs)
def lowI (n : Int) (ps : List Pp) (xs hs : List Int) (v : Int) : Int := (frL ps xs v).foldl (fun m s => min m (hgt hs (stTo ps s))) (2 * n)
def mayP (ps : List Pp) (xs : List Int) (v : Int) (s : Nat) : Int := min (exc v ps xs) (stRoom ps xs s)
/-- one step: the flow, the heights -/
def stepAt (n : Int) (ps : List Pp) (xs hs : List Int) (v : Int) : List Int × List Int :=
  match downS ps xs hs v with
  | some s => (push1 (mayP ps xs v s) xs s, hs)
  | none => (xs, hs.set v.toNat (lowI n ps xs hs v + 1))
def stepR (n : Int) (ps : List Pp) (a b : Int) (q : List Int × List Int) : List Int × List Int :=
  match fullL n a b ps q.1 with
  | [] => q
  | v :: _ => stepAt n ps q.1 q.2 v
def anyFull (n a b : Int) (ps : List Pp) (xs : List Int) : Bool := !(fullL n a b ps xs).isEmpty

section
variable {n a b v : Int} {ps : List Pp} {xs hs : List Int} {s : Nat}

theorem bas_parts (h : basB n ps a b xs hs = true) : greatB n ps a b = true ∧ holdsB n ps xs = true ∧ lackB n a ps xs = false ∧ hgtB n a b hs = true ∧ steepB ps xs hs = false := by
  simp only [basB, Bool.and_eq_true, Bool.not_eq_true'] at h
  exact ⟨h.1.1, h.1.2, h.2.1.1, h.2.1.2, h.2.2⟩
theorem bas_of (h1 : greatB n ps a b = true) (h2 : holdsB n ps xs = true) (h3 : lackB n a ps xs = false) (h4 : hgtB n a b hs = true) (h5 : steepB ps xs hs = false) : basB n ps a b xs hs = true := by
  simp [basB, h1, h2, h3, h4, h5]
theorem lack_iff : lackB n a ps xs = false ↔ ∀ k : Int, 0 ≤ k → k < n → k ≠ a → 0 ≤ exc k ps xs := by
  simp only [lackB, List.any_eq_false, List.mem_range, lackF, Bool.and_eq_true, decide_eq_true_eq]
  constructor
  · intro h k k0 k1 ka
    have := h k.toNat (by omega)
    rw [show ((k.toNat : Nat) : Int) = k by omega] at this
    omega
  · intro h k hk
    have := h k (by omega) (by omega)
    omega
theorem hgt_iff : hgtB n a b hs = true ↔ (hs.length : Int) = n ∧ (∀ k : Nat, k < hs.length → 0 ≤ hs.getD k 0 ∧ hs.getD k 0 ≤ 2 * n) ∧ hgt hs a = n ∧ hgt hs b = 0 := by
  simp only [hgtB, Bool.and_eq_true, decide_eq_true_eq, List.all_eq_true, withinB]
  constructor
  · rintro ⟨⟨⟨h1, h2⟩, h3⟩, h4⟩
    refine ⟨h1, fun k hk => ?_, h3, h4⟩
    have := h2 hs[k] (List.getElem_mem hk)
    rw [List.getD_eq_getElem?_getD, List.getElem?_eq_getElem hk]
    exact this
  · rintro ⟨h1, h2, h3, h4⟩
    refine ⟨⟨⟨h1, fun x hx => ?_⟩, h3⟩, h4⟩
    obtain ⟨k, hk, rfl⟩ := List.getElem_of_mem hx
    have := h2 k hk
    rw [List.getD_eq_getElem?_getD, List.getElem?_eq_getElem hk] at this
    exact this
theorem steepF_iff {s : Nat} : steepF ps hs s = true ↔ hgt hs (stTo ps s) + 1 < hgt hs (stFr ps s) := by
  unfold steepF dropS
  rw [decide_eq_true_eq]
  omega
theorem steep_iff : steepB ps xs hs = false ↔ ∀ s, s < 2 * ps.length → 0 < stRoom ps xs s → hgt hs (stFr ps s) ≤ hgt hs (stTo ps s) + 1 := by
  rw [steepB, List.any_eq_false]
  constructor
  · intro h s h1 h2
    have := h s (stL_mem.2 ⟨h1, h2⟩)
    rw [steepF_iff] at this
    omega
  · intro h s h0
    have := h s (stL_mem.1 h0).1 (stL_mem.1 h0).2
    rw [steepF_iff]
    omega

/-- a way leads down by at most as much as it has steps -/
theorem way_down (h : steepB ps xs hs = false) (m : Nat) (x y : Int) (hk : inK (edgL ps xs) m x y = true) : hgt hs x ≤ hgt hs y + m := by
  induction m generalizing x with
  | zero =>
    have : x = y := by simpa [inK] using hk
    subst this; simp
  | succ m ih =>
    rcases inK_succ.1 hk with h0 | ⟨e, he, rfl, h0⟩
    · have := ih x h0
      omega
    · have h1 := ih _ h0
      obtain ⟨s, s1, s2, s3, s4⟩ := edg_mem.1 he
      have h2 := steep_iff.1 h s s1 s2
      rw [s3, s4] at h2
      omega

/-- P75: no way leads to the end -/
theorem bas_no_way (h : basB n ps a b xs hs = true) : wayB n ps xs a b = false := by
  obtain ⟨h1, h2, h3, h4, h5⟩ := bas_parts h
  obtain ⟨g1, g2, g3, g4⟩ := hgt_iff.1 h4
  apply Classical.byContradiction
  intro hw
  have hw' : wayB n ps xs a b = true := by simpa using hw
  have hd : dst (edgL ps xs) n.toNat a b < n.toNat := (wayB_parts hw').2.2
  have hi := dst_at (E := edgL ps xs) (n := n.toNat) (v := a) (c := b) hd
  have := way_down h5 _ _ _ hi
  omega

theorem net_of_great (h : greatB n ps a b = true) : netOkB n ps = true ∧ 2 ≤ n ∧ n ≤ 5 ∧ 0 ≤ a ∧ a < n ∧ 0 ≤ b ∧ b < n ∧ a ≠ b := by
  obtain ⟨hf, he⟩ := great_parts h
  obtain ⟨hn, a0, a1, b0, b1, hab⟩ := ends_parts he
  have := netOk_parts hn
  exact ⟨hn, by omega, by omega, a0, a1, b0, b1, hab⟩

theorem nodeSum_pos {m : Nat} {f : Nat → Int} (h : ∀ k, k < m → 0 ≤ f k) {j : Nat} (hj : j < m) (hp : 0 < f j) : 0 < nodeSum m f := by
  have h1 := nodeSum_add m (fun k => if (k : Int) = (j : Int) then f j else 0) (fun k => if k = j then 0 else f k)
  have h2 : nodeSum m (fun k => (if (k : Int) = (j : Int) then f j else 0) + (if k = j then 0 else f k)) = nodeSum m f := nodeSum_congr fun k hk => by
    by_cases hh : k = j
    · subst hh; simp
    · rw [if_neg (by omega), if_neg hh]; omega
  have h3 : 0 ≤ nodeSum m (fun k => if k = j then 0 else f k) := by
    clear h1 h2
    have hg : ∀ k, k < m → 0 ≤ (fun k => if k = j then 0 else f k) k := fun k hk => by
      by_cases hh : k = j
      · simp [hh]
      · simp [hh, h k hk]
    generalize (fun k => if k = j then 0 else f k) = g at hg
    clear h hj
    induction m with
    | zero => simp [nodeSum_nil]
    | succ m ih =>
      rw [nodeSum_succ]
      have := ih (fun k hk => hg k (by omega))
      have := hg m (by omega)
      omega
  rw [nodeSum_one, if_pos (by omega)] at h1
  omega

theorem free_room {s : Int} (hf : freeB n ps = true) : 0 ≤ room s ps := by
  have hn : netOkB n ps = true := by simp only [freeB, Bool.and_eq_true] at hf; exact hf.1
  have hr := net_rooms hn
  have hl : ∀ p ∈ ps, p.le = 0 := by
    simp only [freeB, Bool.and_eq_true, List.all_eq_true, decide_eq_true_eq] at hf
    exact hf.2
  clear hf hn
  induction ps with
  | nil => simp [room]
  | cons p ps ih =>
    rw [room_cons]
    have h1 := ih (fun q hq => hr q (by simp [hq])) (fun q hq => hl q (by simp [hq]))
    have h2 := hr p (by simp)
    have h3 := hl p (by simp)
    have h4 : 0 ≤ acT s p p.mo p.le := by unfold acT; split <;> (try split) <;> omega
    omega

/-- what has come to a node that is too full may go back: a way leads from it to the first node -/
theorem full_back (h1 : greatB n ps a b = true) (h2 : holdsB n ps xs = true) (h3 : lackB n a ps xs = false) (v0 : 0 ≤ v) (v1 : v < n) (hv : 0 < exc v ps xs) : inK (edgL ps xs) (n.toNat - 1) v a = true := by
  obtain ⟨hn, n2, n5, a0, a1, b0, b1, hab⟩ := net_of_great h1
  have hr : reachB n ps xs v = true := by simp [reachB, h2, withinB]; omega
  have hi := (holds_inB hn).1 h2
  apply Classical.byContradiction
  intro hno
  have hna : bitB (reachI n ps xs v) a = false := by
    apply Classical.byContradiction
    intro hx
    obtain ⟨m, hm⟩ := (reach_bit hr a0 a1).1 (by simpa using hx)
    exact hno (inK_all (n := n.toNat) (by omega) (edg_in hn xs) hm)
  have hf : across (reachI n ps xs v) ps xs = room (reachI n ps xs v) ps := (full_iff hi _).2 fun t ht hr1 hf => reach_closed hr ht hr1 hf
  have h4 := across_exc (s := reachI n ps xs v) xs hn
  have h5 := free_room (s := reachI n ps xs v) (great_parts h1).1
  have ev : ((v.toNat : Nat) : Int) = v := by omega
  have h6 : 0 < sideExc n.toNat (reachI n ps xs v) ps xs := by
    refine nodeSum_pos (j := v.toNat) (fun k hk => ?_) (by omega) ?_
    · by_cases hb : bitB (reachI n ps xs v) k = true
      · rw [if_pos hb]
        refine lack_iff.1 h3 k (by omega) (by omega) ?_
        intro hka
        rw [hka, hna] at hb
        cases hb
      · rw [if_neg hb]; omega
    · simp only [ev]
      rw [if_pos (reach_self hr)]
      exact hv
  omega

theorem hgt_low (h : basB n ps a b xs hs = true) (v0 : 0 ≤ v) (v1 : v < n) (hv : 0 < exc v ps xs) : hgt hs v ≤ 2 * n - 1 := by
  obtain ⟨h1, h2, h3, h4, h5⟩ := bas_parts h
  obtain ⟨hn, n2, n5, a0, a1, b0, b1, hab⟩ := net_of_great h1
  have := way_down h5 _ _ _ (full_back h1 h2 h3 v0 v1 hv)
  have := (hgt_iff.1 h4).2.2.1
  omega

theorem fullL_head {l : List Nat} {v : Nat} (h : fullL n a b ps xs = v :: l) : (v : Int) < n ∧ (v : Int) ≠ a ∧ (v : Int) ≠ b ∧ 0 < exc (v : Int) ps xs := by
  have : v ∈ fullL n a b ps xs := by rw [h]; simp
  simp only [fullL, List.mem_filter, List.mem_range, fullF, Bool.and_eq_true, decide_eq_true_eq] at this
  omega
theorem fullL_nil (h : fullL n a b ps xs = []) {k : Int} (k0 : 0 ≤ k) (k1 : k < n) (ka : k ≠ a) (kb : k ≠ b) : exc k ps xs ≤ 0 := by
  apply Classical.byContradiction
  intro hx
  have : k.toNat ∈ fullL n a b ps xs := by
    simp only [fullL, List.mem_filter, List.mem_range, fullF, Bool.and_eq_true, decide_eq_true_eq]
    rw [show ((k.toNat : Nat) : Int) = k by omega]
    omega
  rw [h] at this
  simp at this

theorem frL_mem : s ∈ frL ps xs v ↔ s < 2 * ps.length ∧ 0 < stRoom ps xs s ∧ stFr ps s = v := by
  simp [frL, stL_mem, frF, and_assoc]
theorem down_some (h : downS ps xs hs v = some s) : s < 2 * ps.length ∧ 0 < stRoom ps xs s ∧ stFr ps s = v ∧ hgt hs v = hgt hs (stTo ps s) + 1 := by
  have h1 := List.mem_of_find?_eq_some h
  have h2 := List.find?_some h
  obtain ⟨e1, e2, e3⟩ := frL_mem.1 h1
  simp only [downF, dropS, decide_eq_true_eq, e3] at h2
  exact ⟨e1, e2, e3, by omega⟩
theorem down_none (h : downS ps xs hs v = none) (h1 : s < 2 * ps.length) (h2 : 0 < stRoom ps xs s) (h3 : stFr ps s = v) : hgt hs v ≠ hgt hs (stTo ps s) + 1 := by
  have := List.find?_eq_none.1 h s (frL_mem.2 ⟨h1, h2, h3⟩)
  simp only [downF, dropS, decide_eq_true_eq, h3] at this
  omega

theorem low_fold (f : Nat → Int) (l : List Nat) (x : Int) : l.foldl (fun m s => min m (f s)) x ≤ x ∧ (∀ s ∈ l, l.foldl (fun m s => min m (f s)) x ≤ f s) ∧ (l.foldl (fun m s => min m (f s)) x = x ∨ ∃ s ∈ l, l.foldl (fun m s => min m (f s)) x = f s) := by
  induction l generalizing x with
  | nil => simp
  | cons s l ih =>
    obtain ⟨i1, i2, i3⟩ := ih (min x (f s))
    simp only [List.foldl_cons]
    refine ⟨by omega, fun t ht => ?_, ?_⟩
    · rcases List.mem_cons.1 ht with rfl | ht
      · omega
      · exact i2 t ht
    · rcases i3 with i3 | ⟨t, ht, i3⟩
      · by_cases hx : x ≤ f s
        · left; omega
        · right; exact ⟨s, by simp, by omega⟩
      · right; exact ⟨t, by simp [ht], i3⟩

/-- what a lift finds: a node to which a step leads, none lower, and none lower than the node itself -/
theorem low_facts (h : basB n ps a b xs hs = true) (v0 : 0 ≤ v) (v1 : v < n) (va : v ≠ a) (hv : 0 < exc v ps xs) (hd : downS ps xs hs v = none) :
    hgt hs v ≤ lowI n ps xs hs v ∧ lowI n ps xs hs v ≤ 2 * n - 2 ∧ (∀ s, s < 2 * ps.length → 0 < stRoom ps xs s → stFr ps s = v → lowI n ps xs hs v ≤ hgt hs (stTo ps s)) ∧ frL ps xs v ≠ [] := by
  obtain ⟨h1, h2, h3, h4, h5⟩ := bas_parts h
  obtain ⟨hn, n2, n5, a0, a1, b0, b1, hab⟩ := net_of_great h1
  obtain ⟨g1, g2, g3, g4⟩ := hgt_iff.1 h4
  have hb := full_back h1 h2 h3 v0 v1 hv
  obtain ⟨f1, f2, f3⟩ := low_fold (fun s => hgt hs (stTo ps s)) (frL ps xs v) (2 * n)
  have hl : ∀ s, s < 2 * ps.length → 0 < stRoom ps xs s → stFr ps s = v → lowI n ps xs hs v ≤ hgt hs (stTo ps s) := fun s s1 s2 s3 => f2 s (frL_mem.2 ⟨s1, s2, s3⟩)
  -- the first step of the way back
  obtain ⟨m, hm⟩ : ∃ m, n.toNat - 1 = m + 1 := ⟨n.toNat - 2, by omega⟩
  rw [hm] at hb
  have hstep : ∃ s, s < 2 * ps.length ∧ 0 < stRoom ps xs s ∧ stFr ps s = v ∧ inK (edgL ps xs) m (stTo ps s) a = true := by
    clear f1 f2 f3 hl
    have : ∀ m, inK (edgL ps xs) (m + 1) v a = true → ∃ s, s < 2 * ps.length ∧ 0 < stRoom ps xs s ∧ stFr ps s = v ∧ inK (edgL ps xs) m (stTo ps s) a = true := by
      intro m
      induction m with
      | zero =>
        intro hk
        rcases inK_succ.1 hk with hk | ⟨e, he, e1, hk⟩
        · exact absurd (by simpa [inK] using hk) va
        · obtain ⟨s, s1, s2, s3, s4⟩ := edg_mem.1 he
          exact ⟨s, s1, s2, by rw [s3, e1], by rw [s4]; exact hk⟩
      | succ m ih =>
        intro hk
        rcases inK_succ.1 hk with hk | ⟨e, he, e1, hk⟩
        · obtain ⟨s, s1, s2, s3, s4⟩ := ih hk
          exact ⟨s, s1, s2, s3, inK_up s4⟩
        · obtain ⟨s, s1, s2, s3, s4⟩ := edg_mem.1 he
          exact ⟨s, s1, s2, by rw [s3, e1], by rw [s4]; exact hk⟩
    exact this m hb
  obtain ⟨s, s1, s2, s3, s4⟩ := hstep
  have w1 := way_down h5 _ _ _ s4
  have w2 := hl s s1 s2 s3
  have hmem := frL_mem.2 ⟨s1, s2, s3⟩
  refine ⟨?_, by omega, hl, fun he => by rw [he] at hmem; simp at hmem⟩
  rcases f3 with f3 | ⟨t, ht, f3⟩
  · have : lowI n ps xs hs v = 2 * n := f3
    omega
  · have f3' : lowI n ps xs hs v = hgt hs (stTo ps t) := f3
    obtain ⟨t1, t2, t3⟩ := frL_mem.1 ht
    have q1 := steep_iff.1 h5 t t1 t2
    rw [t3] at q1
    have q2 := down_none hd t1 t2 t3
    omega

theorem hgt_set {x y : Int} (x0 : 0 ≤ x) (hx : x < hs.length) (y0 : 0 ≤ y) (z : Int) : hgt (hs.set x.toNat z) y = if x = y then z else hgt hs y := by
  unfold hgt
  rw [getD_set _ _ _ _ _ (by omega)]
  by_cases h : x = y
  · rw [if_pos h, if_pos (by rw [h])]
  · rw [if_neg h, if_neg (by omega)]

/-- a lift keeps a basin -/
theorem bas_lift (h : basB n ps a b xs hs = true) (v0 : 0 ≤ v) (v1 : v < n) (va : v ≠ a) (vb : v ≠ b) (hv : 0 < exc v ps xs) (hd : downS ps xs hs v = none) :
    basB n ps a b xs (hs.set v.toNat (lowI n ps xs hs v + 1)) = true := by
  obtain ⟨h1, h2, h3, h4, h5⟩ := bas_parts h
  obtain ⟨hn, n2, n5, a0, a1, b0, b1, hab⟩ := net_of_great h1
  obtain ⟨g1, g2, g3, g4⟩ := hgt_iff.1 h4
  obtain ⟨l1, l2, l3, -⟩ := low_facts h v0 v1 va hv hd
  have hv0 := g2 v.toNat (by omega)
  have hgv : hgt hs v = hs.getD v.toNat 0 := rfl
  refine bas_of h1 h2 h3 (hgt_iff.2 ⟨by simpa using g1, fun k hk => ?_, ?_, ?_⟩) (steep_iff.2 fun s s1 s2 => ?_)
  · rw [getD_set _ _ _ _ _ (by omega)]
    split
    · omega
    · exact g2 k (by simpa using hk)
  · rw [hgt_set v0 (by omega) a0, if_neg va]; exact g3
  · rw [hgt_set v0 (by omega) b0, if_neg vb]; exact g4
  · obtain ⟨e1, e2, e3⟩ := st_ends hn s1
    have q1 := steep_iff.1 h5 s s1 s2
    rw [hgt_set v0 (by omega) e1.1, hgt_set v0 (by omega) e2.1]
    by_cases c1 : v = stFr ps s
    · have := l3 s s1 s2 c1.symm
      rw [if_pos c1, if_neg (by omega)]
      omega
    · rw [if_neg c1]
      by_cases c2 : v = stTo ps s
      · rw [if_pos c2]
        rw [← c2] at q1
        omega
      · rw [if_neg c2]; exact q1

theorem st_pair {t : Nat} (hs : s < 2 * ps.length) (ht : t < 2 * ps.length) (e : s / 2 = t / 2) (hne : t ≠ s) : stFr ps t = stTo ps s ∧ stTo ps t = stFr ps s := by
  obtain ⟨k, hk, ek, hc⟩ := st_cases ps s hs
  obtain ⟨k', hk', ek', hc'⟩ := st_cases ps t ht
  have : k' = k := by omega
  subst this
  rcases hc with ⟨m1, c1, c2, -⟩ | ⟨m1, c1, c2, -⟩ <;> rcases hc' with ⟨m2, d1, d2, -⟩ | ⟨m2, d1, d2, -⟩ <;> first | (exfalso; omega) | (rw [c1, c2, d1, d2]; exact ⟨rfl, rfl⟩)

/-- a push keeps a basin -/
theorem bas_push (h : basB n ps a b xs hs = true) (v0 : 0 ≤ v) (v1 : v < n) (hv : 0 < exc v ps xs) (hd : downS ps xs hs v = some s) :
    basB n ps a b (push1 (mayP ps xs v s) xs s) hs = true ∧ 1 ≤ mayP ps xs v s := by
  obtain ⟨h1, h2, h3, h4, h5⟩ := bas_parts h
  obtain ⟨hn, n2, n5, a0, a1, b0, b1, hab⟩ := net_of_great h1
  obtain ⟨d1, d2, d3, d4⟩ := down_some hd
  have hi := (holds_inB hn).1 h2
  have hm : 1 ≤ mayP ps xs v s ∧ mayP ps xs v s ≤ exc v ps xs ∧ mayP ps xs v s ≤ stRoom ps xs s := by unfold mayP; omega
  refine ⟨bas_of h1 ((holds_inB hn).2 (push1_inB hi d1 (by omega) hm.2.2)) (lack_iff.2 fun k k0 k1 ka => ?_) h4 (steep_iff.2 fun t t1 t2 => ?_), hm.1⟩
  · rw [exc_push1 hn hi.1 d1, d3]
    have := lack_iff.1 h3 k k0 k1 ka
    by_cases c : k = v
    · subst c; rw [if_pos rfl]; split <;> omega
    · rw [if_neg c]; split <;> omega
  · by_cases c : s / 2 = t / 2
    · by_cases ct : t = s
      · subst ct; rw [d3]; omega
      · obtain ⟨e1, e2⟩ := st_pair d1 t1 c ct
        rw [e1, e2, d3]; omega
    · rw [push1_room hi.1 d1 c] at t2
      exact steep_iff.1 h5 t t1 t2

theorem stepAt_bas (h : basB n ps a b xs hs = true) (v0 : 0 ≤ v) (v1 : v < n) (va : v ≠ a) (vb : v ≠ b) (hv : 0 < exc v ps xs) : basB n ps a b (stepAt n ps xs hs v).1 (stepAt n ps xs hs v).2 = true := by
  unfold stepAt
  cases hd : downS ps xs hs v with
  | some s => exact (bas_push h v0 v1 hv hd).1
  | none => exact bas_lift h v0 v1 va vb hv hd
theorem stepR_bas {q : List Int × List Int} (h : basB n ps a b q.1 q.2 = true) : basB n ps a b (stepR n ps a b q).1 (stepR n ps a b q).2 = true := by
  unfold stepR
  cases hf : fullL n a b ps q.1 with
  | nil => exact h
  | cons v l =>
    obtain ⟨h1, h2, h3, h4⟩ := fullL_head hf
    exact stepAt_bas h (by omega) h1 h2 h3 h4

/-- no height is twice the nodes -/
def lowB (n : Int) (hs : List Int) : Prop := ∀ k : Nat, k < hs.length → hs.getD k 0 ≤ 2 * n - 1
theorem stepAt_low (h : basB n ps a b xs hs = true) (hl : lowB n hs) (v0 : 0 ≤ v) (v1 : v < n) (va : v ≠ a) (hv : 0 < exc v ps xs) : lowB n (stepAt n ps xs hs v).2 := by
  have g1 := (hgt_iff.1 (bas_parts h).2.2.2.1).1
  unfold stepAt
  cases hd : downS ps xs hs v with
  | some s => exact hl
  | none =>
    obtain ⟨l1, l2, -⟩ := low_facts h v0 v1 va hv hd
    intro k hk
    simp only [List.length_set] at hk
    simp only
    rw [getD_set _ _ _ _ _ (by omega)]
    split
    · omega
    · exact hl k hk
theorem stepR_low {q : List Int × List Int} (h : basB n ps a b q.1 q.2 = true) (hl : lowB n q.2) : lowB n (stepR n ps a b q).2 := by
  unfold stepR
  cases hf : fullL n a b ps q.1 with
  | nil => exact hl
  | cons v l =>
    obtain ⟨h1, h2, h3, h4⟩ := fullL_head hf
    exact stepAt_low h hl (by omega) h1 h2 h4

/-- what bounds the steps: the heights that are left, and how high the excess lies -/
def highI (n : Int) (ps : List Pp) (xs hs : List Int) : Int := nodeSum n.toNat fun k => exc (k : Int) ps xs * hs.getD k 0
def muI (n : Int) (ps : List Pp) (xs hs : List Int) : Int := 29 * (2 * n * n - nodeSum n.toNat fun k => hs.getD k 0) + highI n ps xs hs + 14000

theorem nodeSum_set {m j : Nat} (hj : j < m) (hl : m = hs.length) (f : Nat → Int) (z : Int) : nodeSum m (fun k => f k * (hs.set j z).getD k 0) = nodeSum m (fun k => f k * hs.getD k 0) + f j * (z - hs.getD j 0) := by
  have e : nodeSum m (fun k => f k * (hs.set j z).getD k 0) = nodeSum m (fun k => f k * hs.getD k 0 + if (k : Int) = (j : Int) then f j * (z - hs.getD j 0) else 0) := nodeSum_congr fun k hk => by
    rw [getD_set _ _ _ _ _ (by omega)]
    by_cases c : j = k
    · subst c; rw [if_pos rfl, if_pos rfl, Int.mul_sub]; omega
    · rw [if_neg c, if_neg (by omega)]; omega
  rw [e, nodeSum_add, nodeSum_one, if_pos (by omega)]

theorem exc_top (h : freeB n ps = true) (h2 : holdsB n ps xs = true) (k : Int) : exc k ps xs ≤ 28 := by
  have := exc_gap28 (free_holds h) h2 k
  rw [exc_zeros] at this
  omega

theorem mu_lift (h : basB n ps a b xs hs = true) (v0 : 0 ≤ v) (v1 : v < n) {z : Int} (hz : hgt hs v < z) : muI n ps xs (hs.set v.toNat z) < muI n ps xs hs := by
  obtain ⟨h1, h2, h3, h4, h5⟩ := bas_parts h
  have g1 := (hgt_iff.1 h4).1
  have e1 := nodeSum_set (hs := hs) (m := n.toNat) (j := v.toNat) (by omega) (by omega) (fun _ => 1) z
  have e2 := nodeSum_set (hs := hs) (m := n.toNat) (j := v.toNat) (by omega) (by omega) (fun k => exc (k : Int) ps xs) z
  simp only [Int.one_mul] at e1
  rw [show ((v.toNat : Nat) : Int) = v by omega] at e2
  have ht := exc_top (great_parts h1).1 h2 v
  unfold muI highI
  rw [e1, e2]
  have hd : 0 < z - hs.getD v.toNat 0 := by unfold hgt at hz; omega
  have hm : exc v ps xs * (z - hs.getD v.toNat 0) ≤ 28 * (z - hs.getD v.toNat 0) := Int.mul_le_mul_of_nonneg_right ht (by omega)
  generalize exc v ps xs * (z - hs.getD v.toNat 0) = q at hm ⊢
  generalize 2 * n * n = q2
  omega

theorem mu_push (h : basB n ps a b xs hs = true) (d : Int) (hs1 : s < 2 * ps.length) (hdn : hgt hs (stFr ps s) = hgt hs (stTo ps s) + 1) : muI n ps (push1 d xs s) hs = muI n ps xs hs - d := by
  obtain ⟨h1, h2, h3, h4, h5⟩ := bas_parts h
  obtain ⟨hn, n2, n5, a0, a1, b0, b1, hab⟩ := net_of_great h1
  have hi := (holds_inB hn).1 h2
  obtain ⟨e1, e2, e3⟩ := st_ends hn hs1
  have e : highI n ps (push1 d xs s) hs = nodeSum n.toNat (fun k => (exc (k : Int) ps xs * hs.getD k 0 + (if (k : Int) = stTo ps s then d * hgt hs (stTo ps s) else 0)) + (if (k : Int) = stFr ps s then -(d * hgt hs (stFr ps s)) else 0)) := nodeSum_congr fun k hk => by
    rw [exc_push1 hn hi.1 hs1]
    have hk1 : ∀ y : Int, (k : Int) = y → hgt hs y = hs.getD k 0 := fun y hy => by rw [← hy]; simp [hgt]
    by_cases c1 : (k : Int) = stTo ps s
    · rw [if_pos c1, if_pos c1, if_neg (by omega), if_neg (by omega), hk1 _ c1, Int.sub_zero, Int.add_mul, Int.add_zero]
    · rw [if_neg c1, if_neg c1]
      by_cases c2 : (k : Int) = stFr ps s
      · rw [if_pos c2, if_pos c2, hk1 _ c2, Int.add_zero, Int.add_zero, Int.sub_mul]; omega
      · rw [if_neg c2, if_neg c2]; simp
  unfold muI
  rw [e, nodeSum_add, nodeSum_add, nodeSum_one, nodeSum_one, if_pos (by omega), if_pos (by omega), hdn, Int.mul_add, Int.mul_one]
  unfold highI
  generalize d * hgt hs (stTo ps s) = q
  omega

theorem stepAt_mu (h : basB n ps a b xs hs = true) (v0 : 0 ≤ v) (v1 : v < n) (va : v ≠ a) (hv : 0 < exc v ps xs) : muI n ps (stepAt n ps xs hs v).1 (stepAt n ps xs hs v).2 < muI n ps xs hs := by
  unfold stepAt
  cases hd : downS ps xs hs v with
  | some s =>
    obtain ⟨d1, d2, d3, d4⟩ := down_some hd
    have := mu_push h (mayP ps xs v s) d1 (by rw [d3]; exact d4)
    have := (bas_push h v0 v1 hv hd).2
    simp only
    omega
  | none =>
    obtain ⟨l1, -⟩ := low_facts h v0 v1 va hv hd
    exact mu_lift h v0 v1 (by omega)

theorem mu_bd (h : basB n ps a b xs hs = true) : 0 ≤ muI n ps xs hs ∧ muI n ps xs hs ≤ 30000 := by
  obtain ⟨h1, h2, h3, h4, h5⟩ := bas_parts h
  obtain ⟨hn, n2, n5, a0, a1, b0, b1, hab⟩ := net_of_great h1
  obtain ⟨g1, g2, -⟩ := hgt_iff.1 h4
  have hfl := (holds_parts h2).1
  have s1 := nodeSum_bd n.toNat (fun k => exc (k : Int) ps xs * hs.getD k 0) 2800 (fun k hk => by
    have q1 := exc_bd7 hfl (k : Int)
    have q2 := g2 k (by omega)
    have m1 : exc (k : Int) ps xs * hs.getD k 0 ≤ 280 * hs.getD k 0 := Int.mul_le_mul_of_nonneg_right q1.2 q2.1
    have m2 : -280 * hs.getD k 0 ≤ exc (k : Int) ps xs * hs.getD k 0 := Int.mul_le_mul_of_nonneg_right q1.1 q2.1
    omega)
  have s2 := nodeSum_bd n.toNat (fun k => hs.getD k 0 - n) n (fun k hk => by
    have q2 := g2 k (by omega)
    omega)
  have e : nodeSum n.toNat (fun k => hs.getD k 0) = nodeSum n.toNat (fun k => (hs.getD k 0 - n) + n) := nodeSum_congr fun k _ => by omega
  have e2 : nodeSum n.toNat (fun _ => n) = n * n := by
    clear s1 s2 e
    rcases (show n = 2 ∨ n = 3 ∨ n = 4 ∨ n = 5 by omega) with rfl | rfl | rfl | rfl <;> rfl
  rw [nodeSum_add, e2] at e
  have en : ((n.toNat : Nat) : Int) = n := by omega
  rw [en] at s1 s2
  unfold muI highI
  rw [e]
  generalize nodeSum n.toNat (fun k => hs.getD k 0 - n) = y at s2 ⊢
  generalize nodeSum n.toNat (fun k => exc (k : Int) ps xs * hs.getD k 0) = x at s1 ⊢
  rcases (show n = 2 ∨ n = 3 ∨ n = 4 ∨ n = 5 by omega) with rfl | rfl | rfl | rfl <;> omega

/-- no height sinks -/
theorem stepAt_up (h : basB n ps a b xs hs = true) (v0 : 0 ≤ v) (v1 : v < n) (va : v ≠ a) (hv : 0 < exc v ps xs) (k : Nat) : hs.getD k 0 ≤ (stepAt n ps xs hs v).2.getD k 0 := by
  unfold stepAt
  cases hd : downS ps xs hs v with
  | some s => exact Int.le_refl _
  | none =>
    obtain ⟨l1, -⟩ := low_facts h v0 v1 va hv hd
    have g1 := (hgt_iff.1 (bas_parts h).2.2.2.1).1
    simp only
    rw [getD_set _ _ _ _ _ (by omega)]
    split
    · rename_i e; subst e; unfold hgt at l1; omega
    · exact Int.le_refl _
/-- either no height differs, or the flow is the same -/
theorem stepAt_one : (stepAt n ps xs hs v).2 = hs ∨ (stepAt n ps xs hs v).1 = xs := by
  unfold stepAt
  cases downS ps xs hs v with
  | some s => exact .inl rfl
  | none => exact .inr rfl
theorem stepAt_ne (h : basB n ps a b xs hs = true) (v0 : 0 ≤ v) (v1 : v < n) (va : v ≠ a) (hv : 0 < exc v ps xs) : ¬ ((stepAt n ps xs hs v).1 = xs ∧ (stepAt n ps xs hs v).2 = hs) := by
  rintro ⟨e1, e2⟩
  have := stepAt_mu h v0 v1 va hv
  rw [e1, e2] at this
  omega
end

end Go.Proofs.Ytabkhpeoeihmmaa
