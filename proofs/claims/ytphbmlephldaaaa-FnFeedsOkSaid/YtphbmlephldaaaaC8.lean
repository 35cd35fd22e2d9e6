/- Plain facts of chapter 10: short sides tell, turned needs, what feeding costs, one giver and one taker. -/
import Derived.Test.YtphbmlephldaaaaGQ15
namespace Go.Proofs.Ytphbmlephldaaaa
open Go.RowKit

theorem short_feed {n : Int} {ps : List Pp} {nd : List Int} (hn : needsB n ps nd = true) : (shortR n ps nd).2 = !feedB n ps nd := by
  cases hc : feedB n ps nd with
  | false =>
    obtain ⟨k, hk, hs⟩ := (feed_short hn).1 hc
    cases ho : shortO n ps nd with
    | some k => rw [short_some ho]; rfl
    | none =>
      exfalso
      rw [shortO_yes hn, List.find?_eq_none] at ho
      exact ho k (List.mem_range.2 hk) hs
  | true =>
    cases ho : shortO n ps nd with
    | none => rw [short_none ho]; rfl
    | some k =>
      exfalso
      rw [shortO_yes hn] at ho
      have h1 := List.find?_some ho
      have h2 := List.mem_range.1 (List.mem_of_find?_eq_some ho)
      have := (feed_short hn).2 ⟨k, h2, h1⟩
      rw [hc] at this
      cases this

section
variable {n : Int} {ps : List Pp} {nd xs : List Int}

def negN (nd : List Int) : List Int := nd.map fun x => -x
theorem negN_len (nd : List Int) : (negN nd).length = nd.length := List.length_map _
theorem negN_at (nd : List Int) (v : Nat) : (negN nd).getD v 0 = -nd.getD v 0 := by
  rw [negN, List.getD_eq_getElem?_getD, List.getD_eq_getElem?_getD, List.getElem?_map]
  cases nd[v]? <;> simp
theorem nodeSum_neg (m : Nat) (f : Nat → Int) : nodeSum m (fun k => -f k) = -nodeSum m f := by
  induction m with
  | zero => rfl
  | succ m ih => rw [nodeSum_succ, nodeSum_succ, ih]; omega
theorem needs_turn (n : Int) (ps : List Pp) (nd : List Int) : needsB n (ps.map turnP) (negN nd) = needsB n ps nd := by
  have e1 : ((negN nd).all fun x => withinB x (-12) 12) = nd.all fun x => withinB x (-12) 12 := by
    rw [negN, List.all_map]
    congr 1
    funext x
    simp only [Function.comp, withinB]
    rw [Bool.eq_iff_iff]
    simp only [Bool.and_eq_true, decide_eq_true_eq]
    omega
  have e2 : decide (nodeSum nd.length (fun k => (negN nd).getD k 0) = 0) = decide (nodeSum nd.length (fun k => nd.getD k 0) = 0) := by
    rw [nodeSum_congr (g := fun k => -nd.getD k 0) (fun k _ => negN_at nd k), nodeSum_neg, decide_eq_decide]
    omega
  rw [needsB, needsB, free_turn, negN_len, e1, e2]
theorem zeroD_turn (hn : netOkB n ps = true) : zeroD n (negN nd) (ps.map turnP) xs = zeroD n nd ps xs := by
  have e : ∀ v, dN (negN nd) (ps.map turnP) xs v = -dN nd ps xs v := fun v => by
    unfold dN
    rw [exc_turn (v : Int) xs hn, negN_at]
    omega
  rw [Bool.eq_iff_iff, zeroD_iff, zeroD_iff]
  simp only [e]
  exact ⟨fun h v hv => by have := h v hv; omega, fun h v hv => by have := h v hv; omega⟩
theorem feeds_turn (n : Int) (ps : List Pp) (xs nd : List Int) : feedsB n (ps.map turnP) xs (negN nd) = feedsB n ps xs nd := by
  unfold feedsB
  rw [holds_turn, needs_turn]
  by_cases hn : netOkB n ps = true
  · rw [zeroD_turn hn]
  · have : holdsB n ps xs = false := by
      rw [Bool.eq_false_iff]
      exact fun h => hn (holds_net h)
    rw [this]; rfl
theorem feed_turn (hn : needsB n ps nd = true) : feedB n (ps.map turnP) (negN nd) = feedB n ps nd := by
  have hn' : needsB n (ps.map turnP) (negN nd) = true := by rw [needs_turn]; exact hn
  have hnet := free_net (needs_parts hn).1
  rw [Bool.eq_iff_iff, feed_iff hn', feed_iff hn]
  simp only [holds_turn, zeroD_turn hnet]

/-- needs of nothing -/
theorem needs_no (hf : freeB n ps = true) : needsB n ps (List.replicate n.toNat 0) = true := by
  have hb := netOk_parts (free_net hf)
  rw [needsB, hf, List.length_replicate]
  have e1 : ((List.replicate n.toNat (0 : Int)).all fun x => withinB x (-12) 12) = true := by
    rw [List.all_eq_true]
    intro x hx
    rw [List.eq_of_mem_replicate hx]; rfl
  have e2 : nodeSum n.toNat (fun k => (List.replicate n.toNat (0 : Int)).getD k 0) = 0 := nodeSum_zero _ _ fun k _ => by
    rw [List.getD_eq_getElem?_getD, List.getElem?_replicate]
    split <;> rfl
  rw [e1, e2]
  simp
  omega

/-- one node gives what another one needs -/
def oneNeed (N f t : Nat) (m : Int) : List Int := ((List.replicate N 0).set f (-m)).set t m
theorem oneNeed_len (N f t : Nat) (m : Int) : (oneNeed N f t m).length = N := by simp [oneNeed]
theorem oneNeed_at {N f t : Nat} {m : Int} (hf : f < N) (ht : t < N) (v : Nat) (hft : f ≠ t) : (oneNeed N f t m).getD v 0 = (if v = t then m else 0) + (if v = f then -m else 0) := by
  rw [oneNeed, List.getD_eq_getElem?_getD, List.getElem?_set, List.getElem?_set, List.getElem?_replicate]
  by_cases h1 : t = v
  · subst h1
    rw [if_pos rfl, if_pos (by simpa using ht), if_pos rfl, if_neg (by omega)]
    simp
  · rw [if_neg h1, if_neg (Ne.symm h1)]
    by_cases h2 : f = v
    · subst h2
      rw [if_pos rfl, if_pos (by simpa using hf), if_pos rfl]
      simp
    · rw [if_neg h2, if_neg (Ne.symm h2)]
      split <;> rfl
theorem nodeSum_pair {N f t : Nat} {a b : Int} (hf : f < N) (ht : t < N) : nodeSum N (fun v => (if v = t then a else 0) + (if v = f then b else 0)) = a + b := by
  rw [nodeSum_add]
  have e1 := nodeSum_one N (t : Int) a
  have e2 := nodeSum_one N (f : Int) b
  simp only [Int.ofNat_inj] at e1 e2
  rw [e1, e2, if_pos (by omega), if_pos (by omega)]
theorem oneNeed_ok {N f t : Nat} {m : Int} (hfr : freeB N ps = true) (hf : f < N) (ht : t < N) (hft : f ≠ t) (m0 : 0 ≤ m) (m1 : m ≤ 12) : needsB N ps (oneNeed N f t m) = true := by
  rw [needsB, hfr, oneNeed_len]
  have e1 : ((oneNeed N f t m).all fun x => withinB x (-12) 12) = true := by
    rw [List.all_eq_true]
    intro x hx
    simp only [withinB, Bool.and_eq_true, decide_eq_true_eq]
    rcases List.mem_or_eq_of_mem_set hx with hx | rfl
    · rcases List.mem_or_eq_of_mem_set hx with hx | rfl
      · rw [List.eq_of_mem_replicate hx]; omega
      · omega
    · omega
  have e2 : nodeSum N (fun k => (oneNeed N f t m).getD k 0) = 0 := by
    rw [nodeSum_congr (g := fun v => (if v = t then m else 0) + (if v = f then -m else 0)) (fun k _ => oneNeed_at hf ht k hft), nodeSum_pair hf ht]
    omega
  rw [e1, e2]
  simp
theorem oneNeed_sum {N f t : Nat} {m : Int} (hf : f < N) (ht : t < N) (hft : f ≠ t) (s : Int) : needSum N (oneNeed N f t m) s = (if bitB s t = true then m else 0) + (if bitB s f = true then -m else 0) := by
  unfold needSum
  rw [nodeSum_congr (g := fun v => (if v = t then (if bitB s t = true then m else 0) else 0) + (if v = f then (if bitB s f = true then -m else 0) else 0)) (fun k _ => by
    show (if bitB s k = true then (oneNeed N f t m).getD k 0 else 0) = _
    rw [oneNeed_at hf ht k hft]
    by_cases h1 : k = t
    · subst h1
      rw [if_pos rfl, if_neg (Ne.symm hft), if_pos rfl, if_neg (Ne.symm hft)]
      split <;> omega
    · by_cases h2 : k = f
      · subst h2
        rw [if_neg h1, if_pos rfl, if_neg h1, if_pos rfl]
        split <;> omega
      · rw [if_neg h1, if_neg h2, if_neg h1, if_neg h2]
        split <;> omega), nodeSum_pair hf ht]

/-- a free net's rooms are not negative -/
theorem room_free {s : Int} (hfr : freeB n ps = true) : 0 ≤ room s ps := by
  have hr := net_rooms (free_net hfr)
  have hle : ∀ p ∈ ps, p.le = 0 := by
    simp only [freeB, Bool.and_eq_true, List.all_eq_true, decide_eq_true_eq] at hfr
    exact hfr.2
  clear hfr
  induction ps with
  | nil => exact Int.le_refl _
  | cons p ps ih =>
    rw [room_cons]
    have h1 := ih (fun q hq => hr q (by simp [hq])) (fun q hq => hle q (by simp [hq]))
    have h2 := hr p (by simp)
    have h3 := hle p (by simp)
    have : 0 ≤ acT s p p.mo p.le := by
      unfold acT
      split
      · omega
      · split <;> omega
    omega

/-- what one node can give another one is what flows at most -/
theorem need_great {N f t : Nat} {m : Int} (h : greatB N ps f t = true) (m0 : 0 ≤ m) (m1 : m ≤ 12) : feedB N ps (oneNeed N f t m) = decide (m ≤ greatV N ps f t) := by
  have hp : freeB N ps = true ∧ endsB N ps f t = true := by simpa [greatB] using h
  obtain ⟨hn, a0, a1, b0, b1, hab⟩ := ends_parts hp.2
  have hf : f < N := by omega
  have ht : t < N := by omega
  have hft : f ≠ t := by omega
  have hN := needs_in (oneNeed_ok hp.1 hf ht hft m0 m1)
  have hnd := oneNeed_ok (m := m) hp.1 hf ht hft m0 m1
  have hnb := netOk_parts hn
  rw [great_cut h]
  by_cases hm : m ≤ leastI N ps f t
  · rw [decide_eq_true hm]
    cases hc : feedB N ps (oneNeed N f t m) with
    | true => rfl
    | false =>
      exfalso
      obtain ⟨k, hk, hs⟩ := (feed_short hnd).1 hc
      unfold shortF at hs
      have hs := of_decide_eq_true hs
      have hpw : ((2 ^ (N : Int).toNat : Nat) : Int) = 2 ^ (N : Int).toNat := by simp
      have k0 : (0 : Int) ≤ k := by omega
      have k1 : (k : Int) ≤ 2 ^ (N : Int).toNat - 1 := by omega
      rw [room_not hn k0 k1, Int.toNat_natCast, oneNeed_sum hf ht hft] at hs
      have hr := room_free (s := lack N k) hp.1
      by_cases ht1 : bitB k t = true
      · by_cases hf1 : bitB k f = true
        · rw [if_pos ht1, if_pos hf1] at hs; omega
        · have hpa : partsB (lack N k) f t = true := by
            rw [parts_lack (by omega) (by omega) k0 k1 (by omega) (by omega) (by omega) (by omega), partsB, ht1]
            simpa using hf1
          have hl := least_le (ps := ps) (n := N) (s := lack N k) (by unfold lack; omega) (by unfold lack; omega) hpa
          rw [if_pos ht1, if_neg hf1] at hs
          omega
      · rw [if_neg ht1] at hs
        split at hs <;> omega
  · rw [decide_eq_false hm]
    cases hc : feedB N ps (oneNeed N f t m) with
    | false => rfl
    | true =>
      exfalso
      obtain ⟨-, h1, h2⟩ := feed_ok hc
      generalize feedL N ps (oneNeed N f t m) = ys at *
      rw [zeroD_iff, Int.toNat_natCast] at h2
      have e : ∀ v : Nat, v < N → exc (v : Int) ps ys = (if v = t then m else 0) + (if v = f then -m else 0) := fun v hv => by
        have := h2 v hv
        unfold dN at this
        rw [oneNeed_at hf ht v hft] at this
        omega
      have ho : onlyTwo N ps ys f t := by
        intro v v0 v1 hvf hvt
        obtain ⟨v, rfl⟩ := Int.eq_ofNat_of_zero_le v0
        rw [e v (by omega), if_neg (by omega), if_neg (by omega)]
        omega
      have h3 := le_cut hp.2 h1 ho
      have h4 := e t ht
      rw [if_pos rfl, if_neg (Ne.symm hft)] at h4
      omega
end

end Go.Proofs.Ytphbmlephldaaaa
