/- Plain facts. -/
import Derived.Test.YtobbeofibkpbaaaGZ14
/- Plain facts of chapter 5: single pushes from excess to lack. -/
namespace Go.Proofs.Ytobbeofibkpbaaa
open Go.RowKit

section
variable {n : Int} {ps : List Pp} {xs : List Int}
end

section
variable {n : Int} {ps : List Pp} {xs : List Int}

end

end Go.Proofs.Ytobbeofibkpbaaa

/- Plain facts of chapter 10: needs, pushes from what gives too little to what lacks, short sides. -/
namespace Go.Proofs.Ytobbeofibkpbaaa
open Go.RowKit

theorem nodeSum_sub (n : Nat) (f g : Nat → Int) : nodeSum n (fun k => f k - g k) = nodeSum n f - nodeSum n g := by
  induction n with
  | zero => rfl
  | succ n ih => rw [nodeSum_succ, nodeSum_succ, nodeSum_succ, ih]; omega

def needSum (n : Nat) (nd : List Int) (s : Int) : Int := nodeSum n fun k => if bitB s k = true then nd.getD k 0 else 0
def NeedIn (n : Int) (nd : List Int) : Prop := nodeSum n.toNat (fun k => nd.getD k 0) = 0 ∧ ∀ v, -12 ≤ nd.getD v 0 ∧ nd.getD v 0 ≤ 12
def dN (nd : List Int) (ps : List Pp) (xs : List Int) (v : Nat) : Int := exc (v : Int) ps xs - nd.getD v 0
def plusD (nd : List Int) (ps : List Pp) (xs : List Int) (v : Nat) : Bool := decide (0 < dN nd ps xs v)
def lessD (nd : List Int) (ps : List Pp) (xs : List Int) (v : Nat) : Bool := decide (dN nd ps xs v < 0)
def zeroD (n : Int) (nd : List Int) (ps : List Pp) (xs : List Int) : Bool := (List.range n.toNat).all fun v => dN nd ps xs v == 0
def overO (n : Int) (nd : List Int) (ps : List Pp) (xs : List Int) : Option Nat := (List.range n.toNat).find? (plusD nd ps xs)
def lackD (n : Int) (nd : List Int) (ps : List Pp) (xs : List Int) (f v : Nat) : Bool := lessD nd ps xs v && wayB n ps xs f v
def lackDO (n : Int) (nd : List Int) (ps : List Pp) (xs : List Int) (f : Nat) : Option Nat := (List.range n.toNat).find? (lackD n nd ps xs f)
def amtD (n : Int) (nd : List Int) (ps : List Pp) (xs : List Int) (f t : Nat) : Int := min (min (amtR n ps xs f t) (dN nd ps xs f)) (-(dN nd ps xs t))
def pushD (n : Int) (nd : List Int) (ps : List Pp) (xs : List Int) (f t : Nat) : List Int := pushL (amtD n nd ps xs f t) xs (wayR n ps xs f t)
def nextD (n : Int) (nd : List Int) (ps : List Pp) (xs : List Int) : Option (List Int) := match overO n nd ps xs with
  | none => none
  | some f => match lackDO n nd ps xs f with
    | none => none
    | some t => some (pushD n nd ps xs f t)
def posD (n : Int) (nd : List Int) (ps : List Pp) (xs : List Int) : Int := nodeSum n.toNat fun v => max (dN nd ps xs v) 0
def fedK (n : Int) (nd : List Int) (ps : List Pp) : Nat → List Int → Option (List Int)
  | 0, xs => if zeroD n nd ps xs = true then some xs else none
  | k + 1, xs => if zeroD n nd ps xs = true then some xs else match nextD n nd ps xs with
    | none => none
    | some ys => fedK n nd ps k ys
/-- what comes of pushes from a flow -/
def fedF (n : Int) (nd : List Int) (ps : List Pp) (xs : List Int) : Option (List Int) := fedK n nd ps 1500 xs

section
variable {n : Int} {ps : List Pp} {xs nd : List Int}

theorem zeroD_iff : zeroD n nd ps xs = true ↔ ∀ v : Nat, v < n.toNat → dN nd ps xs v = 0 := by
  simp only [zeroD, List.all_eq_true, List.mem_range, beq_iff_eq]

theorem dN_sum (hn : netOkB n ps = true) (hd : NeedIn n nd) : nodeSum n.toNat (fun k => dN nd ps xs k) = 0 := by
  have h1 := nodeSum_sub n.toNat (fun k => exc (k : Int) ps xs) (fun k => nd.getD k 0)
  rw [exc_sum xs hn, hd.1] at h1
  show nodeSum n.toNat (fun k => exc (k : Int) ps xs - nd.getD k 0) = 0
  omega

theorem over_some {f : Nat} (h : overO n nd ps xs = some f) : f < n.toNat ∧ 0 < dN nd ps xs f ∧ ∀ v, v < f → ¬ 0 < dN nd ps xs v := by
  obtain ⟨h1, i, hi, h2, h3⟩ := List.find?_eq_some_iff_getElem.1 h
  simp only [List.length_range, List.getElem_range] at hi h2 h3
  subst h2
  refine ⟨hi, by simpa [plusD] using h1, fun v hv => ?_⟩
  have := h3 v hv
  simpa [plusD] using this

theorem over_none (hn : netOkB n ps = true) (hd : NeedIn n nd) (h : overO n nd ps xs = none) : zeroD n nd ps xs = true := by
  rw [zeroD_iff]
  have hle : ∀ v : Nat, v < n.toNat → dN nd ps xs v ≤ 0 := by
    intro v hv
    have := List.find?_eq_none.1 h v (by simpa using hv)
    simpa [plusD] using this
  intro v hv
  have hsum := dN_sum (xs := xs) hn hd
  apply Classical.byContradiction
  intro hne
  have := nodeSum_lt (n := n.toNat) (f := fun k => dN nd ps xs k) (g := fun _ => 0) (fun k hk => hle k hk) (a := v) (by omega) (by have := hle v (by omega); show dN nd ps xs v < 0; omega)
  rw [hsum, nodeSum_zero _ _ (fun _ _ => rfl)] at this
  omega

theorem zero_over (h : zeroD n nd ps xs = true) : overO n nd ps xs = none := by
  rw [zeroD_iff] at h
  refine List.find?_eq_none.2 fun v hv => ?_
  have := h v (List.mem_range.1 hv)
  simp [plusD, this]

theorem lackD_some {f t : Nat} (h : lackDO n nd ps xs f = some t) : t < n.toNat ∧ dN nd ps xs t < 0 ∧ wayB n ps xs f t = true ∧ ∀ v, v < t → lackD n nd ps xs f v = false := by
  obtain ⟨h1, i, hi, h2, h3⟩ := List.find?_eq_some_iff_getElem.1 h
  simp only [List.length_range, List.getElem_range] at hi h2 h3
  subst h2
  simp only [lackD, lessD, Bool.and_eq_true, decide_eq_true_eq] at h1
  exact ⟨hi, h1.1, h1.2, fun v hv => by simpa using h3 v hv⟩
theorem lackD_none {f : Nat} (h : lackDO n nd ps xs f = none) : ∀ v, v < n.toNat → dN nd ps xs v < 0 → wayB n ps xs f v = false := by
  intro v hv h0
  have := List.find?_eq_none.1 h v (by simpa using hv)
  simpa [lackD, lessD, h0] using this

/-- a push to a node that lacks -/
theorem pushD_ok {f t : Nat} (hf : f < n.toNat) (h1 : 0 < dN nd ps xs f) (h2 : dN nd ps xs t < 0) (hw : wayB n ps xs f t = true) :
    1 ≤ amtD n nd ps xs f t ∧ amtD n nd ps xs f t ≤ amtR n ps xs f t ∧ holdsB n ps (pushD n nd ps xs f t) = true ∧ posD n nd ps (pushD n nd ps xs f t) < posD n nd ps xs ∧
    (∀ v : Nat, dN nd ps (pushD n nd ps xs f t) v = dN nd ps xs v + (if v = t then amtD n nd ps xs f t else 0) - (if v = f then amtD n nd ps xs f t else 0)) := by
  have hh := (wayB_parts hw).1
  have hn := holds_net hh
  have hi := (holds_inB hn).1 hh
  obtain ⟨l1, l2, l3, l4, l5⟩ := wayR_ok hw
  obtain ⟨m1, m2, m3⟩ := amtR_pos hw
  have a1 : 1 ≤ amtD n nd ps xs f t := by unfold amtD; omega
  have a2 : amtD n nd ps xs f t ≤ amtR n ps xs f t := by unfold amtD; omega
  have a3 : amtD n nd ps xs f t ≤ dN nd ps xs f := by unfold amtD; omega
  have a4 : amtD n nd ps xs f t ≤ -dN nd ps xs t := by unfold amtD; omega
  have he : ∀ v : Nat, dN nd ps (pushD n nd ps xs f t) v = dN nd ps xs v + (if v = t then amtD n nd ps xs f t else 0) - (if v = f then amtD n nd ps xs f t else 0) := fun v => by
    have h9 : exc (v : Int) ps (pushD n nd ps xs f t) = exc (v : Int) ps xs + (if (v : Int) = t then amtD n nd ps xs f t else 0) - (if (v : Int) = f then amtD n nd ps xs f t else 0) := exc_pushL hn hi.1 l3
    simp only [Int.ofNat_inj] at h9
    show exc (v : Int) ps _ - nd.getD v 0 = exc (v : Int) ps xs - nd.getD v 0 + _ - _
    rw [h9]
    omega
  refine ⟨a1, a2, (holds_inB hn).2 (pushL_inB (by omega) hi (fun s hs => ⟨(l4 s hs).1, Int.le_trans a2 (m3 s hs)⟩) l5), ?_, he⟩
  refine nodeSum_lt (fun k _ => ?_) hf ?_
  · show max (dN nd ps (pushD n nd ps xs f t) k) 0 ≤ max (dN nd ps xs k) 0
    rw [he]
    by_cases e1 : k = t
    · rw [e1]
      have : ¬ t = f := by intro e; rw [e] at h2; omega
      rw [if_pos rfl, if_neg this]
      omega
    · rw [if_neg e1]
      split <;> omega
  · show max (dN nd ps (pushD n nd ps xs f t) f) 0 < max (dN nd ps xs f) 0
    rw [he]
    have : ¬ f = t := by intro e; rw [← e] at h2; omega
    rw [if_neg this, if_pos rfl]
    omega

theorem nextD_some {ys : List Int} (h : nextD n nd ps xs = some ys) : ∃ f t : Nat, overO n nd ps xs = some f ∧ lackDO n nd ps xs f = some t ∧ ys = pushD n nd ps xs f t := by
  unfold nextD at h
  split at h
  · simp at h
  · next f hf =>
    split at h
    · simp at h
    · next t ht => exact ⟨f, t, hf, ht, by injection h with h; exact h.symm⟩
theorem nextD_ok {ys : List Int} (h : nextD n nd ps xs = some ys) : holdsB n ps ys = true ∧ posD n nd ps ys < posD n nd ps xs := by
  obtain ⟨f, t, hf, ht, rfl⟩ := nextD_some h
  obtain ⟨f1, f2, -⟩ := over_some hf
  obtain ⟨t1, t2, t3, -⟩ := lackD_some ht
  have := pushD_ok f1 f2 t2 t3
  exact ⟨this.2.2.1, this.2.2.2.1⟩
theorem nextD_none {f : Nat} (h : overO n nd ps xs = some f) (h1 : lackDO n nd ps xs f = none) : nextD n nd ps xs = none := by rw [nextD, h]; simp only [h1]
theorem nextD_is {f t : Nat} (h : overO n nd ps xs = some f) (h1 : lackDO n nd ps xs f = some t) : nextD n nd ps xs = some (pushD n nd ps xs f t) := by rw [nextD, h]; simp only [h1]
theorem lackDO_eq (n : Int) (nd : List Int) (ps : List Pp) (xs : List Int) (f : Nat) : lackDO n nd ps xs f = ((List.range n.toNat).filter (lessD nd ps xs)).find? fun v : Nat => wayB n ps xs f v := by
  rw [List.find?_filter, lackDO]
  congr 1
  funext v
  simp [lackD]

theorem posD_nn (n : Int) (nd : List Int) (ps : List Pp) (xs : List Int) : 0 ≤ posD n nd ps xs := by
  have := nodeSum_le (n := n.toNat) (f := fun _ => 0) (g := fun v => max (dN nd ps xs v) 0) fun k _ => by show (0 : Int) ≤ max _ 0; omega
  rwa [nodeSum_zero _ _ (fun _ _ => rfl)] at this
theorem posD_zero (hn : netOkB n ps = true) (hd : NeedIn n nd) (h : posD n nd ps xs ≤ 0) : zeroD n nd ps xs = true := by
  refine over_none hn hd (Option.eq_none_iff_forall_ne_some.2 fun f he => ?_)
  obtain ⟨f1, f2, -⟩ := over_some he
  have := nodeSum_lt (n := n.toNat) (f := fun _ => 0) (g := fun v => max (dN nd ps xs v) 0) (fun k _ => by show (0 : Int) ≤ max _ 0; omega) f1 (by show (0 : Int) < max (dN nd ps xs f) 0; omega)
  rw [nodeSum_zero _ _ (fun _ _ => rfl)] at this
  unfold posD at h
  omega
theorem dN_bd (hf : flowOkB n ps xs = true) (hd : NeedIn n nd) (v : Nat) : -292 ≤ dN nd ps xs v ∧ dN nd ps xs v ≤ 292 := by
  obtain ⟨hn, hl, ha⟩ := flowOk_parts hf
  have hb := netOk_parts hn
  have h1 := exc_bd (v : Int) ps xs ha
  have h2 := hd.2 v
  unfold dN
  omega
theorem posD_bd (hf : flowOkB n ps xs = true) (hd : NeedIn n nd) : posD n nd ps xs ≤ 1500 := by
  have hb := netOk_parts (flowOk_parts hf).1
  have h := nodeSum_le (n := n.toNat) (f := fun v => max (dN nd ps xs v) 0) (g := fun _ => 300) fun k _ => by
    have := dN_bd hf hd k
    show max (dN nd ps xs k) 0 ≤ 300
    omega
  have e : ∀ m : Nat, nodeSum m (fun _ => 300) = 300 * (m : Int) := by
    intro m
    induction m with
    | zero => rfl
    | succ m ih => rw [nodeSum_succ, ih]; push_cast; omega
  rw [e] at h
  unfold posD
  omega

theorem room_not {k : Int} (hn : netOkB n ps = true) (h0 : 0 ≤ k) (h1 : k ≤ 2 ^ n.toNat - 1) : room (-1 - k) ps = room (lack n k) ps := by
  have hb := netOk_parts hn
  unfold room
  congr 1
  refine List.map_congr_left fun p hp => ?_
  have he := net_ends hn p hp
  have hi := net_endsIn hn p hp
  unfold endsIn at hi
  unfold acT
  rw [parts_not he.1 he.2.1 he.2.2.1 he.2.2.2, parts_not he.2.2.1 he.2.2.2 he.1 he.2.1, parts_lack (by omega) (by omega) h0 h1 hi.1 hi.2.1 hi.2.2.1 hi.2.2.2.1, parts_lack (by omega) (by omega) h0 h1 hi.2.2.1 hi.2.2.2.1 hi.1 hi.2.1]
theorem lack_lack (n k : Int) : lack n (lack n k) = k := by unfold lack; omega
theorem needSum_lack {k : Int} (hn : netOkB n ps = true) (hd : NeedIn n nd) (h0 : 0 ≤ k) (h1 : k ≤ 2 ^ n.toNat - 1) : needSum n.toNat nd (lack n k) = -needSum n.toNat nd k := by
  have hb := netOk_parts hn
  have h := nodeSum_add n.toNat (fun j => if bitB (lack n k) j = true then nd.getD j 0 else 0) (fun j => if bitB k j = true then nd.getD j 0 else 0)
  rw [nodeSum_congr (g := fun j => nd.getD j 0) (fun j hj => by
    show (if bitB (lack n k) j = true then nd.getD j 0 else 0) + (if bitB k j = true then nd.getD j 0 else 0) = nd.getD j 0
    rw [bit_lack' (by omega) (by omega) h0 h1 (by omega) (by omega)]
    cases bitB k j <;> simp), hd.1] at h
  unfold needSum
  omega

def shortF (n : Int) (nd : List Int) (ps : List Pp) (k : Nat) : Bool := decide (room (-1 - (k : Int)) ps < needSum n.toNat nd k)

/-- what a side gives too much, node by node -/
theorem side_split (s : Int) : sideExc n.toNat s ps xs = needSum n.toNat nd s + nodeSum n.toNat (fun k => if bitB s k = true then dN nd ps xs k else 0) := by
  unfold sideExc needSum
  rw [← nodeSum_add]
  refine nodeSum_congr fun k _ => ?_
  split
  · unfold dN; omega
  · rfl

theorem stuckD {f : Nat} (hd : NeedIn n nd) (hh : holdsB n ps xs = true) (hf : f < n.toNat) (h1 : 0 < dN nd ps xs f) (h2 : ∀ v, v < n.toNat → dN nd ps xs v < 0 → wayB n ps xs f v = false) :
    ∃ k : Nat, k < 2 ^ n.toNat ∧ shortF n nd ps k = true := by
  have hn := holds_net hh
  have hb := netOk_parts hn
  have hr : reachB n ps xs f = true := by simp [reachB, hh, withinB]; omega
  have hi := (holds_inB hn).1 hh
  have hfull : across (reachI n ps xs f) ps xs = room (reachI n ps xs f) ps := (full_iff hi _).2 fun t ht hr1 hf => reach_closed hr ht hr1 hf
  have hin := reach_in n ps xs f
  have hx := across_exc (s := reachI n ps xs f) xs hn
  have hpos : 0 < nodeSum n.toNat (fun k => if bitB (reachI n ps xs f) k = true then dN nd ps xs k else 0) := by
    have := nodeSum_lt (n := n.toNat) (f := fun _ => 0) (g := fun k => if bitB (reachI n ps xs f) k = true then dN nd ps xs k else 0) (fun k hk => by
      show (0 : Int) ≤ if bitB (reachI n ps xs f) k = true then dN nd ps xs k else 0
      split
      · next hbit =>
        apply Classical.byContradiction
        intro hneg
        have hw := h2 k hk (by omega)
        have hreach := (reach_bit hr (v := (k : Int)) (by omega) (by omega)).1 hbit
        rw [← inK_iff (n := n.toNat) (by omega) (edg_in hn xs)] at hreach
        have hne : f ≠ k := by intro e; rw [← e] at hneg; omega
        have hne' : (f : Int) ≠ k := by omega
        have he : endsB n ps f k = true := by simp [endsB, hn, withinB]; omega
        simp [wayB, hh, he, dis] at hw
        omega
      · omega) hf (by
      show (0 : Int) < if bitB (reachI n ps xs f) f = true then dN nd ps xs f else 0
      rw [if_pos (reach_self hr)]; exact h1)
    rw [nodeSum_zero _ _ (fun _ _ => rfl)] at this
    exact this
  have hsp := side_split (n := n) (ps := ps) (xs := xs) (nd := nd) (reachI n ps xs f)
  have hl := needSum_lack hn hd hin.1 hin.2
  have hl0 : 0 ≤ lack n (reachI n ps xs f) := by unfold lack; omega
  have hl1 : lack n (reachI n ps xs f) ≤ 2 ^ n.toNat - 1 := by unfold lack; omega
  refine ⟨(lack n (reachI n ps xs f)).toNat, ?_, ?_⟩
  · have hp : ((2 ^ n.toNat : Nat) : Int) = 2 ^ n.toNat := by simp
    omega
  · unfold shortF
    rw [Int.toNat_of_nonneg hl0, room_not hn hl0 hl1, lack_lack, hl]
    exact decide_eq_true (by omega)

theorem blockedD {k : Nat} (hd : NeedIn n nd) (hk : k < 2 ^ n.toNat) (h : shortF n nd ps k = true) {ys : List Int} (hh : holdsB n ps ys = true) : zeroD n nd ps ys = false := by
  rw [Bool.eq_false_iff]
  intro hb
  have hn := holds_net hh
  have hp := holds_parts hh
  have hpw : ((2 ^ n.toNat : Nat) : Int) = 2 ^ n.toNat := by simp
  have k0 : (0 : Int) ≤ k := by omega
  have k1 : (k : Int) ≤ 2 ^ n.toNat - 1 := by omega
  have h1 := across_room (s := lack n k) hp.2.1 hp.2.2
  have h2 := across_exc (s := lack n k) ys hn
  have h3 := side_split (n := n) (ps := ps) (xs := ys) (nd := nd) (lack n k)
  rw [zeroD_iff] at hb
  rw [nodeSum_zero _ (fun j => if bitB (lack n k) j = true then dN nd ps ys j else 0) fun j hj => by rw [hb j hj]; simp] at h3
  have h4 := needSum_lack hn hd k0 k1
  unfold shortF at h
  rw [room_not hn k0 k1] at h
  have h5 := of_decide_eq_true h
  omega

theorem fedK_stay (hd : NeedIn n nd) (k : Nat) : ∀ {xs : List Int}, holdsB n ps xs = true → posD n nd ps xs ≤ k → ∀ j, fedK n nd ps (k + j) xs = fedK n nd ps k xs := by
  induction k with
  | zero =>
    intro xs h hk j
    have hb := posD_zero (holds_net h) hd hk
    cases j with
    | zero => rfl
    | succ j => rw [Nat.zero_add, fedK, fedK, if_pos hb, if_pos hb]
  | succ k ih =>
    intro xs h hk j
    rw [show k + 1 + j = (k + j) + 1 by omega, fedK, fedK]
    split
    · rfl
    · cases hn : nextD n nd ps xs with
      | none => rfl
      | some ys =>
        have := nextD_ok hn
        exact ih this.1 (by omega) j

theorem fedF_zero (h : zeroD n nd ps xs = true) : fedF n nd ps xs = some xs := by
  unfold fedF; rw [fedK, if_pos h]
theorem fedF_step (hd : NeedIn n nd) {ys : List Int} (hh : holdsB n ps xs = true) (h : nextD n nd ps xs = some ys) : fedF n nd ps xs = fedF n nd ps ys := by
  have hb : ¬ zeroD n nd ps xs = true := fun hz => by
    obtain ⟨f, t, hf, -⟩ := nextD_some h
    rw [zero_over hz] at hf; cases hf
  have e : fedK n nd ps (1500 + 1) xs = fedK n nd ps 1500 ys := by rw [fedK, if_neg hb, h]
  unfold fedF
  rw [← e]
  exact (fedK_stay hd 1500 hh (posD_bd (holds_parts hh).1 hd) 1).symm
theorem fedF_stuck (hb : zeroD n nd ps xs = false) (h : nextD n nd ps xs = none) : fedF n nd ps xs = none := by
  unfold fedF; rw [fedK, if_neg (by simp [hb]), h]
theorem fedF_ok (hh : holdsB n ps xs = true) {ys : List Int} (h : fedF n nd ps xs = some ys) : holdsB n ps ys = true ∧ zeroD n nd ps ys = true := by
  unfold fedF at h
  generalize 1500 = k at h
  induction k generalizing xs with
  | zero =>
    rw [fedK] at h
    split at h
    · next hb => injection h with h; subst h; exact ⟨hh, hb⟩
    · simp at h
  | succ k ih =>
    rw [fedK] at h
    split at h
    · next hb => injection h with h; subst h; exact ⟨hh, hb⟩
    · split at h
      · simp at h
      · next zs hz => exact ih (nextD_ok hz).1 h
theorem fedF_none (hd : NeedIn n nd) (hh : holdsB n ps xs = true) (h : fedF n nd ps xs = none) : ∃ k : Nat, k < 2 ^ n.toNat ∧ shortF n nd ps k = true := by
  unfold fedF at h
  have hpos := posD_bd (holds_parts hh).1 hd
  have key : ∀ (k : Nat) (xs : List Int), holdsB n ps xs = true → posD n nd ps xs ≤ k → fedK n nd ps k xs = none → ∃ k : Nat, k < 2 ^ n.toNat ∧ shortF n nd ps k = true := by
    intro k
    induction k with
    | zero =>
      intro xs hh hk h
      rw [fedK, if_pos (posD_zero (holds_net hh) hd hk)] at h
      simp at h
    | succ k ih =>
      intro xs hh hk h
      rw [fedK] at h
      split at h
      · simp at h
      · next hb =>
        split at h
        · next hnx =>
          unfold nextD at hnx
          split at hnx
          · next he => exact absurd (over_none (holds_net hh) hd he) hb
          · next f he =>
            split at hnx
            · next hl =>
              obtain ⟨f1, f2, -⟩ := over_some he
              exact stuckD hd hh f1 f2 (lackD_none hl)
            · simp at hnx
        · next ys hy =>
          have := nextD_ok hy
          exact ih ys this.1 (by omega) h
  exact key 1500 xs hh hpos h

theorem pushD_facts {f t : Nat} (hf : f < n.toNat) (h1 : 0 < dN nd ps xs f) (h2 : dN nd ps xs t < 0) (hw : wayB n ps xs f t = true) :
    (∀ k j, 0 ≤ (pushL (amtD n nd ps xs f t) xs ((wayR n ps xs f t).take k)).getD j 0 ∧ (pushL (amtD n nd ps xs f t) xs ((wayR n ps xs f t).take k)).getD j 0 ≤ 40) ∧ 0 ≤ amtD n nd ps xs f t ∧ amtD n nd ps xs f t ≤ 40 := by
  have hh := (wayB_parts hw).1
  have hn := holds_net hh
  have hi := (holds_inB hn).1 hh
  have hr := net_rooms hn
  obtain ⟨l1, l2, l3, l4, l5⟩ := wayR_ok hw
  obtain ⟨m1, m2, m3⟩ := amtR_pos hw
  obtain ⟨a1, a2, -⟩ := pushD_ok hf h1 h2 hw
  refine ⟨fun k j => ?_, by omega, by omega⟩
  have hk := pushL_inB (d := amtD n nd ps xs f t) (l := (wayR n ps xs f t).take k) (by omega) hi (fun s hs => ⟨(l4 s (List.mem_of_mem_take hs)).1, Int.le_trans a2 (m3 s (List.mem_of_mem_take hs))⟩) (l5.sublist (List.take_sublist _ _))
  by_cases hj : j < ps.length
  · have h1 := hk.2 j hj
    have h2 := hr ps[j] (List.getElem_mem hj)
    omega
  · have h1 := hk.1
    rw [List.getD_eq_getElem?_getD, List.getElem?_eq_none (by omega)]
    simp

end

section
variable {n : Int} {ps : List Pp} {xs : List Int}

/-- needs of nothing -/
def noNeed (n : Int) : List Int := List.replicate n.toNat 0
theorem noNeed_at (n : Int) (v : Nat) : (noNeed n).getD v 0 = 0 := by
  rw [noNeed, List.getD_eq_getElem?_getD, List.getElem?_replicate]
  split <;> rfl
theorem noNeed_in (n : Int) : NeedIn n (noNeed n) := ⟨nodeSum_zero _ _ fun k _ => noNeed_at n k, fun v => by rw [noNeed_at]; omega⟩
theorem dN_no (ps : List Pp) (xs : List Int) (v : Nat) : dN (noNeed n) ps xs v = exc (v : Int) ps xs := by unfold dN; rw [noNeed_at]; omega
theorem zeroD_no (hf : flowOkB n ps xs = true) : zeroD n (noNeed n) ps xs = balB n ps xs := by
  have hn := netOk_parts (flowOk_parts hf).1
  rw [Bool.eq_iff_iff, zeroD_iff, bal_iff hf]
  simp only [dN_no]
  exact ⟨fun h v hv => h v (by omega), fun h v hv => h v (by omega)⟩
theorem nextD_no (n : Int) (ps : List Pp) (xs : List Int) : nextD n (noNeed n) ps xs = nextC n ps xs := by
  have e1 : overO n (noNeed n) ps xs = excessO n ps xs := by
    unfold overO excessO
    congr 1
    funext v
    rw [plusD, dN_no]
  have e2 : ∀ f, lackDO n (noNeed n) ps xs f = lackO n ps xs f := fun f => by
    unfold lackDO lackO
    congr 1
    funext v
    rw [lackD, lackF, lessD, dN_no]
  have e3 : ∀ f t : Nat, pushD n (noNeed n) ps xs f t = pushC n ps xs f t := fun f t => by
    unfold pushD pushC amtD amtC
    rw [dN_no, dN_no]
  unfold nextD nextC
  rw [e1]
  cases excessO n ps xs with
  | none => rfl
  | some f =>
    simp only [e2]
    cases lackO n ps xs f with
    | none => rfl
    | some t => simp only [e3]
theorem fedK_no (k : Nat) : ∀ {xs : List Int}, holdsB n ps xs = true → fedK n (noNeed n) ps k xs = circK n ps k xs := by
  induction k with
  | zero => intro xs h; rw [fedK, circK, zeroD_no (holds_parts h).1]
  | succ k ih =>
    intro xs h
    rw [fedK, circK, zeroD_no (holds_parts h).1, nextD_no]
    split
    · rfl
    · cases hn : nextC n ps xs with
      | none => rfl
      | some ys => exact ih (next_ok hn).1
theorem fedF_no (h : holdsB n ps xs = true) : fedF n (noNeed n) ps xs = circF n ps xs := by
  unfold fedF circF
  rw [fedK_no 1500 h]
  exact circK_stay 1400 h (posE_bd (holds_parts h).1) 100
end

/-- what NeedsOk and FeedsOk answer -/
def needsB (n : Int) (ps : List Pp) (nd : List Int) : Bool := freeB n ps && (decide ((nd.length : Int) = n) && nd.all fun x => withinB x (-12) 12) && decide (nodeSum nd.length (fun k => nd.getD k 0) = 0)
theorem needs_parts {n : Int} {ps : List Pp} {nd : List Int} (h : needsB n ps nd = true) : freeB n ps = true ∧ (nd.length : Int) = n ∧ (∀ x ∈ nd, -12 ≤ x ∧ x ≤ 12) ∧ nodeSum nd.length (fun k => nd.getD k 0) = 0 := by
  simp only [needsB, Bool.and_eq_true, decide_eq_true_eq, List.all_eq_true, withinB] at h
  exact ⟨h.1.1, h.1.2.1, h.1.2.2, h.2⟩
theorem free_net {n : Int} {ps : List Pp} (h : freeB n ps = true) : netOkB n ps = true := by
  simp only [freeB, Bool.and_eq_true] at h
  exact h.1
theorem needs_in {n : Int} {ps : List Pp} {nd : List Int} (h : needsB n ps nd = true) : NeedIn n nd := by
  obtain ⟨h1, h2, h3, h4⟩ := needs_parts h
  have e : n.toNat = nd.length := by omega
  refine ⟨by rw [e]; exact h4, fun v => ?_⟩
  by_cases hv : v < nd.length
  · rw [List.getD_eq_getElem?_getD, List.getElem?_eq_getElem hv]
    exact h3 _ (List.getElem_mem hv)
  · rw [List.getD_eq_getElem?_getD, List.getElem?_eq_none (by omega)]
    show -12 ≤ (0 : Int) ∧ (0 : Int) ≤ 12
    omega
theorem needs_holds {n : Int} {ps : List Pp} {nd : List Int} (h : needsB n ps nd = true) : holdsB n ps (List.replicate ps.length 0) = true := by
  obtain ⟨h1, -⟩ := needs_parts h
  rw [free_zero (free_net h1), h1]

/-- what FeedingOf answers -/
def feedO (n : Int) (ps : List Pp) (nd : List Int) : Option (List Int) := if needsB n ps nd = true then fedF n nd ps (List.replicate ps.length 0) else none
def feedB (n : Int) (ps : List Pp) (nd : List Int) : Bool := (feedO n ps nd).isSome
def feedL (n : Int) (ps : List Pp) (nd : List Int) : List Int := (feedO n ps nd).getD []
section
variable {n : Int} {ps : List Pp} {nd : List Int}
theorem feedO_yes (h : needsB n ps nd = true) : feedO n ps nd = fedF n nd ps (List.replicate ps.length 0) := by rw [feedO, if_pos h]
theorem feedO_no (h : needsB n ps nd = false) : feedO n ps nd = none := by rw [feedO, if_neg (by simp [h])]
theorem feed_some {ys : List Int} (h : feedO n ps nd = some ys) : feedB n ps nd = true ∧ feedL n ps nd = ys := by simp [feedB, feedL, h]
theorem feed_none (h : feedO n ps nd = none) : feedB n ps nd = false ∧ feedL n ps nd = [] := by simp [feedB, feedL, h]
theorem feed_ok (h : feedB n ps nd = true) : needsB n ps nd = true ∧ holdsB n ps (feedL n ps nd) = true ∧ zeroD n nd ps (feedL n ps nd) = true := by
  cases ho : feedO n ps nd with
  | none => rw [(feed_none ho).1] at h; simp at h
  | some ys =>
    rw [(feed_some ho).2]
    unfold feedO at ho
    split at ho
    · next hn => exact ⟨hn, fedF_ok (needs_holds hn) ho⟩
    · simp at ho
theorem feed_no (h : feedB n ps nd = false) : feedO n ps nd = none := by
  unfold feedB at h
  cases ho : feedO n ps nd with
  | none => rfl
  | some ys => simp [ho] at h
/-- needs are fed just if no side is short -/
theorem feed_short (hn : needsB n ps nd = true) : feedB n ps nd = false ↔ ∃ k : Nat, k < 2 ^ n.toNat ∧ shortF n nd ps k = true := by
  refine ⟨fun h => ?_, fun ⟨k, hk, hs⟩ => ?_⟩
  · have ho := feed_no h
    rw [feedO_yes hn] at ho
    exact fedF_none (needs_in hn) (needs_holds hn) ho
  · rw [Bool.eq_false_iff]
    intro h
    have := feed_ok h
    rw [blockedD (needs_in hn) hk hs this.2.1] at this
    simp at this
end

end Go.Proofs.Ytobbeofibkpbaaa

/- Plain facts of chapter 10: short sides tell, turned needs, what feeding costs, one giver and one taker. -/
namespace Go.Proofs.Ytobbeofibkpbaaa
open Go.RowKit

section
variable {n : Int} {ps : List Pp} {nd xs : List Int}

/-- one node gives what another one needs -/
def oneNeed (N f t : Nat) (m : Int) : List Int := ((List.replicate N 0).set f (-m)).set t m
theorem oneNeed_len (N f t : Nat) (m : Int) : (oneNeed N f t m).length = N := by simp [oneNeed]
theorem oneNeed_at {N f t : Nat} {m : Int} (hf : f < N) (ht : t < N) (v : Nat) (hft : f ≠ t) : (oneNeed N f t m).getD v 0 = (if v = t then m else 0) + (if v = f then -m else 0) := by
  rw [oneNeed, List.getD_eq_getElem?_getD, List.getElem?_set, List.getElem?_set, List.getElem?_replicate]
  by_cases h1 : t = v
  · subst h1
    rw [if_pos rfl, if_pos (by simpa using ht), if_pos rfl, if_neg (by omega)]
    simp
  · rw [if_neg h1, if_neg (Ne.symm h1)]
    by_cases h2 : f = v
    · subst h2
      rw [if_pos rfl, if_pos (by simpa using hf), if_pos rfl]
      simp
    · rw [if_neg h2, if_neg (Ne.symm h2)]
      split <;> rfl
theorem nodeSum_pair {N f t : Nat} {a b : Int} (hf : f < N) (ht : t < N) : nodeSum N (fun v => (if v = t then a else 0) + (if v = f then b else 0)) = a + b := by
  rw [nodeSum_add]
  have e1 := nodeSum_one N (t : Int) a
  have e2 := nodeSum_one N (f : Int) b
  simp only [Int.ofNat_inj] at e1 e2
  rw [e1, e2, if_pos (by omega), if_pos (by omega)]
theorem oneNeed_ok {N f t : Nat} {m : Int} (hfr : freeB N ps = true) (hf : f < N) (ht : t < N) (hft : f ≠ t) (m0 : 0 ≤ m) (m1 : m ≤ 12) : needsB N ps (oneNeed N f t m) = true := by
  rw [needsB, hfr, oneNeed_len]
  have e1 : ((oneNeed N f t m).all fun x => withinB x (-12) 12) = true := by
    rw [List.all_eq_true]
    intro x hx
    simp only [withinB, Bool.and_eq_true, decide_eq_true_eq]
    rcases List.mem_or_eq_of_mem_set hx with hx | rfl
    · rcases List.mem_or_eq_of_mem_set hx with hx | rfl
      · rw [List.eq_of_mem_replicate hx]; omega
      · omega
    · omega
  have e2 : nodeSum N (fun k => (oneNeed N f t m).getD k 0) = 0 := by
    rw [nodeSum_congr (g := fun v => (if v = t then m else 0) + (if v = f then -m else 0)) (fun k _ => oneNeed_at hf ht k hft), nodeSum_pair hf ht]
    omega
  rw [e1, e2]
  simp
theorem oneNeed_sum {N f t : Nat} {m : Int} (hf : f < N) (ht : t < N) (hft : f ≠ t) (s : Int) : needSum N (oneNeed N f t m) s = (if bitB s t = true then m else 0) + (if bitB s f = true then -m else 0) := by
  unfold needSum
  rw [nodeSum_congr (g := fun v => (if v = t then (if bitB s t = true then m else 0) else 0) + (if v = f then (if bitB s f = true then -m else 0) else 0)) (fun k _ => by
    show (if bitB s k = true then (oneNeed N f t m).getD k 0 else 0) = _
    rw [oneNeed_at hf ht k hft]
    by_cases h1 : k = t
    · subst h1
      rw [if_pos rfl, if_neg (Ne.symm hft), if_pos rfl, if_neg (Ne.symm hft)]
      split <;> omega
    · by_cases h2 : k = f
      · subst h2
        rw [if_neg h1, if_pos rfl, if_neg h1, if_pos rfl]
        split <;> omega
      · rw [if_neg h1, if_neg h2, if_neg h1, if_neg h2]
        split <;> omega), nodeSum_pair hf ht]

/-- a free net's rooms are not negative -/
theorem room_free {s : Int} (hfr : freeB n ps = true) : 0 ≤ room s ps := by
  have hr := net_rooms (free_net hfr)
  have hle : ∀ p ∈ ps, p.le = 0 := by
    simp only [freeB, Bool.and_eq_true, List.all_eq_true, decide_eq_true_eq] at hfr
    exact hfr.2
  clear hfr
  induction ps with
  | nil => exact Int.le_refl _
  | cons p ps ih =>
    rw [room_cons]
    have h1 := ih (fun q hq => hr q (by simp [hq])) (fun q hq => hle q (by simp [hq]))
    have h2 := hr p (by simp)
    have h3 := hle p (by simp)
    have : 0 ≤ acT s p p.mo p.le := by
      unfold acT
      split
      · omega
      · split <;> omega
    omega

/-- what one node can give another one is what flows at most -/
theorem need_great {N f t : Nat} {m : Int} (h : greatB N ps f t = true) (m0 : 0 ≤ m) (m1 : m ≤ 12) : feedB N ps (oneNeed N f t m) = decide (m ≤ greatV N ps f t) := by
  have hp : freeB N ps = true ∧ endsB N ps f t = true := by simpa [greatB] using h
  obtain ⟨hn, a0, a1, b0, b1, hab⟩ := ends_parts hp.2
  have hf : f < N := by omega
  have ht : t < N := by omega
  have hft : f ≠ t := by omega
  have hN := needs_in (oneNeed_ok hp.1 hf ht hft m0 m1)
  have hnd := oneNeed_ok (m := m) hp.1 hf ht hft m0 m1
  have hnb := netOk_parts hn
  rw [great_cut h]
  by_cases hm : m ≤ leastI N ps f t
  · rw [decide_eq_true hm]
    cases hc : feedB N ps (oneNeed N f t m) with
    | true => rfl
    | false =>
      exfalso
      obtain ⟨k, hk, hs⟩ := (feed_short hnd).1 hc
      unfold shortF at hs
      have hs := of_decide_eq_true hs
      have hpw : ((2 ^ (N : Int).toNat : Nat) : Int) = 2 ^ (N : Int).toNat := by simp
      have k0 : (0 : Int) ≤ k := by omega
      have k1 : (k : Int) ≤ 2 ^ (N : Int).toNat - 1 := by omega
      rw [room_not hn k0 k1, Int.toNat_natCast, oneNeed_sum hf ht hft] at hs
      have hr := room_free (s := lack N k) hp.1
      by_cases ht1 : bitB k t = true
      · by_cases hf1 : bitB k f = true
        · rw [if_pos ht1, if_pos hf1] at hs; omega
        · have hpa : partsB (lack N k) f t = true := by
            rw [parts_lack (by omega) (by omega) k0 k1 (by omega) (by omega) (by omega) (by omega), partsB, ht1]
            simpa using hf1
          have hl := least_le (ps := ps) (n := N) (s := lack N k) (by unfold lack; omega) (by unfold lack; omega) hpa
          rw [if_pos ht1, if_neg hf1] at hs
          omega
      · rw [if_neg ht1] at hs
        split at hs <;> omega
  · rw [decide_eq_false hm]
    cases hc : feedB N ps (oneNeed N f t m) with
    | false => rfl
    | true =>
      exfalso
      obtain ⟨-, h1, h2⟩ := feed_ok hc
      generalize feedL N ps (oneNeed N f t m) = ys at *
      rw [zeroD_iff, Int.toNat_natCast] at h2
      have e : ∀ v : Nat, v < N → exc (v : Int) ps ys = (if v = t then m else 0) + (if v = f then -m else 0) := fun v hv => by
        have := h2 v hv
        unfold dN at this
        rw [oneNeed_at hf ht v hft] at this
        omega
      have ho : onlyTwo N ps ys f t := by
        intro v v0 v1 hvf hvt
        obtain ⟨v, rfl⟩ := Int.eq_ofNat_of_zero_le v0
        rw [e v (by omega), if_neg (by omega), if_neg (by omega)]
        omega
      have h3 := le_cut hp.2 h1 ho
      have h4 := e t ht
      rw [if_pos rfl, if_neg (Ne.symm hft)] at h4
      omega
end

end Go.Proofs.Ytobbeofibkpbaaa
