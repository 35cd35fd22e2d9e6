/- Plain facts. -/
import Derived.Test.YtphbmlephldaaaaGN8
import Derived.Test.YtphbmlephldaaaaGN27
import Derived.Test.YtphbmlephldaaaaMG
/- Prices, plain: all one more, rings, and pipes that are neither full nor at their least amount. -/
namespace Go.Proofs.Ytphbmlephldaaaa
open Go.RowKit

section
variable {n : Int} {ps : List Pp} {xs P : List Int}

theorem getD_up (P : List Int) (v : Nat) (h : v < P.length) : (P.map fun x => x + 1).getD v 0 = P.getD v 0 + 1 := by
  simp [List.getD_eq_getElem?_getD, h]
theorem bad_up {s : Nat} (h1 : (stFr ps s).toNat < P.length) (h2 : (stTo ps s).toNat < P.length) : badP ps (P.map fun x => x + 1) s = badP ps P s := by
  rw [badP, badP, getD_up P _ h1, getD_up P _ h2]
  by_cases h : P.getD (stFr ps s).toNat 0 + stCo ps s < P.getD (stTo ps s).toNat 0
  · rw [decide_eq_true h, decide_eq_true (by omega)]
  · rw [decide_eq_false h, decide_eq_false (by omega)]
theorem prices_up (n : Int) (ps : List Pp) (xs P : List Int) : pricesB n ps xs (P.map fun x => x + 1) = pricesB n ps xs P := by
  cases hh : holdsB n ps xs
  · rw [prices_hold hh, prices_hold hh]
  · by_cases hl : (P.length : Int) = n
    · rw [prices_yes hh hl, prices_yes hh (by simpa using hl)]
      congr 1
      have hn := holds_net hh
      rw [Bool.eq_iff_iff, List.any_eq_true, List.any_eq_true]
      have key : ∀ s ∈ stL ps xs, badP ps (P.map fun x => x + 1) s = badP ps P s := fun s hs => by
        obtain ⟨⟨f0, f1⟩, ⟨t0, t1⟩, -⟩ := st_ends hn (stL_mem.1 hs).1
        exact bad_up (by omega) (by omega)
      constructor
      · rintro ⟨s, hs, hb⟩; exact ⟨s, hs, by rw [← key s hs]; exact hb⟩
      · rintro ⟨s, hs, hb⟩; exact ⟨s, hs, by rw [key s hs]; exact hb⟩
    · rw [prices_len hl, prices_len (by simpa using hl)]
theorem prices_parts (h : pricesB n ps xs P = true) : holdsB n ps xs = true ∧ (P.length : Int) = n ∧ rightP ps (stL ps xs) P := by
  simp only [pricesB, Bool.and_eq_true, decide_eq_true_eq, Bool.not_eq_true', List.any_eq_false] at h
  refine ⟨h.1, h.2.1, fun s hs => ?_⟩
  have := h.2.2 s hs
  rw [badP, decide_eq_true_eq] at this
  omega
theorem prices_gain (h : pricesB n ps xs P = true) : gainsB n ps xs = false := by
  rw [Bool.eq_false_iff]
  intro hg
  obtain ⟨h1, h2, -⟩ := gainR_ok hg
  have := right_ring (prices_parts h).2.2 h1
  omega
theorem prices_between (h : pricesB n ps xs P = true) {k : Nat} (hk : k < ps.length) (h1 : ps[k].le < xs.getD k 0) (h2 : xs.getD k 0 < ps[k].mo) : P.getD ps[k].to.toNat 0 - P.getD ps[k].fr.toNat 0 = ps[k].co := by
  have hr := (prices_parts h).2.2
  have e0 : ps.getD k zeroPp = ps[k] := by simp [List.getD_eq_getElem?_getD, hk]
  have e1 : (2 * k) % 2 = 0 := by omega
  have e2 : (2 * k) / 2 = k := by omega
  have e3 : (2 * k + 1) % 2 = 1 := by omega
  have e4 : (2 * k + 1) / 2 = k := by omega
  have r0 : stRoom ps xs (2 * k) = ps[k].mo - xs.getD k 0 := by rw [stRoom, if_neg (by omega), e2, e0]
  have r1 : stRoom ps xs (2 * k + 1) = xs.getD k 0 - ps[k].le := by rw [stRoom, if_pos e3, e4, e0]
  have a := hr (2 * k) (stL_mem.2 ⟨by omega, by rw [r0]; omega⟩)
  have b := hr (2 * k + 1) (stL_mem.2 ⟨by omega, by rw [r1]; omega⟩)
  have a1 : stFr ps (2 * k) = ps[k].fr := by rw [stFr, if_neg (by omega), e2, e0]
  have a2 : stTo ps (2 * k) = ps[k].to := by rw [stTo, if_neg (by omega), e2, e0]
  have a3 : stCo ps (2 * k) = ps[k].co := by rw [stCo, if_neg (by omega), e2, e0]
  have b1 : stFr ps (2 * k + 1) = ps[k].to := by rw [stFr, if_pos e3, e4, e0]
  have b2 : stTo ps (2 * k + 1) = ps[k].fr := by rw [stTo, if_pos e3, e4, e0]
  have b3 : stCo ps (2 * k + 1) = -ps[k].co := by rw [stCo, if_pos e3, e4, e0]
  rw [a1, a2, a3] at a
  rw [b1, b2, b3] at b
  omega
theorem price_small (n : Int) (ps : List Pp) (xs : List Int) : ∀ v, -700 ≤ (priceR n ps xs).getD v 0 ∧ (priceR n ps xs).getD v 0 ≤ 0 := by
  intro v
  by_cases h : pricedB n ps xs = true
  · obtain ⟨hh, hg⟩ := priced_parts h
    have hn := holds_net hh
    obtain ⟨n2, n5, hl7, -⟩ := netOk_parts hn
    have hins := stL_ins hn xs
    have e : priceR n ps xs = prcN ps (stL ps xs) n.toNat n.toNat := by rw [priceR, if_pos h]
    have hs14 : (stL ps xs).length ≤ 14 := by have := stL_len ps xs; omega
    have := prcN_bd (ps := ps) (S := stL ps xs) hins (net_costs hn) n.toNat v
    rw [e]
    rcases this with h1 | h1
    · omega
    · omega
  · rw [priceR, if_neg h]; simp
end

end Go.Proofs.Ytphbmlephldaaaa

/- What a flow costs, by prices, plain: the sum of excesses times prices, and of what each pipe costs by the prices of its ends. -/
namespace Go.Proofs.Ytphbmlephldaaaa
open Go.RowKit

def ptT (P : List Int) (p : Pp) (x : Int) : Int := x * P.getD p.to.toNat 0 - x * P.getD p.fr.toNat 0
def lftP (P : List Int) (p : Pp) : Int := p.co + P.getD p.fr.toNat 0 - P.getD p.to.toNat 0
def lowT (P : List Int) (p : Pp) : Int := if lftP P p < 0 then lftP P p * p.mo else lftP P p * p.le
def sumV (ps : List Pp) (xs P : List Int) (k : Nat) : Int := ((List.range k).map fun v : Nat => exc (v : Int) ps xs * P.getD v 0).sum
def sumW (P : List Int) (ps : List Pp) : Int := (ps.map (lowT P)).sum

theorem sumV_zero (ps : List Pp) (xs P : List Int) : sumV ps xs P 0 = 0 := rfl
theorem sumV_succ (ps : List Pp) (xs P : List Int) (k : Nat) : sumV ps xs P (k + 1) = sumV ps xs P k + exc (k : Int) ps xs * P.getD k 0 := by
  simp [sumV, List.range_succ, List.sum_append]
theorem sumW_snoc (P : List Int) (ps : List Pp) (k : Nat) (hk : k < ps.length) : sumW P (ps.take (k + 1)) = sumW P (ps.take k) + lowT P ps[k] := by
  unfold sumW
  rw [List.take_succ_eq_append_getElem hk, List.map_append, List.sum_append]
  simp

theorem one_node (P : List Int) (x : Int) (f t : Nat) (hne : f ≠ t) (p : Pp) (hf : p.fr = f) (ht : p.to = t) : ∀ N : Nat, ((List.range N).map fun v : Nat => excT (v : Int) p x * P.getD v 0).sum = (if t < N then x * P.getD t 0 else 0) - (if f < N then x * P.getD f 0 else 0)
  | 0 => by simp
  | N + 1 => by
    have ih := one_node P x f t hne p hf ht N
    rw [List.range_succ, List.map_append, List.sum_append, ih]
    simp only [List.map_cons, List.map_nil, List.sum_cons, List.sum_nil, excT, hf, ht]
    by_cases h1 : N = t
    · subst h1
      rw [if_pos rfl, if_neg (by omega : ¬ N < N), if_pos (by omega : N < N + 1)]
      by_cases h2 : f < N
      · rw [if_pos h2, if_pos (by omega)]; omega
      · rw [if_neg h2, if_neg (by omega)]; omega
    · rw [if_neg (by omega : ¬ (N : Int) = (t : Int))]
      by_cases h2 : N = f
      · subst h2
        rw [if_pos rfl, if_neg (by omega : ¬ N < N), if_pos (by omega : N < N + 1), Int.neg_mul]
        by_cases h3 : t < N
        · rw [if_pos h3, if_pos (by omega)]; omega
        · rw [if_neg h3, if_neg (by omega)]; omega
      · rw [if_neg (by omega : ¬ (N : Int) = (f : Int)), Int.zero_mul]
        have e1 : (t < N + 1) ↔ (t < N) := by omega
        have e2 : (f < N + 1) ↔ (f < N) := by omega
        simp only [e1, e2]; omega

theorem sum_add {α : Type} (L : List α) (f g : α → Int) : (L.map fun q => f q + g q).sum = (L.map f).sum + (L.map g).sum := by
  induction L with
  | nil => rfl
  | cons a L ih => simp only [List.map_cons, List.sum_cons, ih]; omega

theorem sumV_all (N : Nat) (P : List Int) : ∀ (ps : List Pp) (xs : List Int), (∀ p ∈ ps, 0 ≤ p.fr ∧ p.fr < N ∧ 0 ≤ p.to ∧ p.to < N ∧ p.fr ≠ p.to) → ps.length = xs.length → sumV ps xs P N = ((ps.zip xs).map fun q => ptT P q.1 q.2).sum
  | [], [], _, _ => by
    have : ∀ v : Int, exc v [] [] = 0 := fun v => rfl
    have hz : ∀ l : List Nat, (l.map fun _ => (0 : Int)).sum = 0 := fun l => by induction l <;> simp_all
    simp [sumV, this, hz]
  | p :: ps, x :: xs, h, hl => by
    have ih := sumV_all N P ps xs (fun q hq => h q (by simp [hq])) (by simpa using hl)
    obtain ⟨h1, h2, h3, h4, h5⟩ := h p (by simp)
    have e : ∀ v : Nat, exc (v : Int) (p :: ps) (x :: xs) * P.getD v 0 = excT (v : Int) p x * P.getD v 0 + exc (v : Int) ps xs * P.getD v 0 := fun v => by
      have : exc (v : Int) (p :: ps) (x :: xs) = excT (v : Int) p x + exc (v : Int) ps xs := by simp [exc]
      rw [this, Int.add_mul]
    have hone := one_node P x p.fr.toNat p.to.toNat (by omega) p (by omega) (by omega) N
    rw [if_pos (by omega), if_pos (by omega)] at hone
    simp only [List.zip_cons_cons, List.map_cons, List.sum_cons]
    rw [← ih]
    unfold sumV
    simp only [e]
    rw [sum_add, hone]
    rfl

theorem pipe_cost {P : List Int} {p : Pp} {x : Int} (h0 : p.le ≤ x) (h1 : x ≤ p.mo) (h2 : x < p.mo → P.getD p.to.toNat 0 ≤ P.getD p.fr.toNat 0 + p.co) (h3 : p.le < x → P.getD p.fr.toNat 0 ≤ P.getD p.to.toNat 0 - p.co) :
    costT p x = lowT P p + ptT P p x := by
  unfold lowT lftP ptT costT
  generalize P.getD p.to.toNat 0 = T at *
  generalize P.getD p.fr.toNat 0 = F at *
  generalize p.co = c at *
  have key : ∀ y : Int, y * c = (c + F - T) * y + (y * T - y * F) := fun y => by
    rw [Int.sub_mul, Int.add_mul, Int.mul_comm y c, Int.mul_comm y T, Int.mul_comm y F]; omega
  split
  · have hx : x = p.mo := by
      by_cases h : x < p.mo
      · have := h2 h; omega
      · omega
    subst hx
    first | exact key _ | (rw [Int.mul_comm]; exact key _) | (rw [Int.mul_comm c]; exact key _)
  · by_cases hx : x = p.le
    · subst hx
      first | exact key _ | (rw [Int.mul_comm]; exact key _) | (rw [Int.mul_comm c]; exact key _)
    · have h4 := h3 (by omega)
      have hz : c + F - T = 0 := by omega
      rw [hz, Int.zero_mul]
      have := key x
      rw [hz, Int.zero_mul] at this
      first | exact this | (rw [Int.mul_comm c]; exact this) | (rw [Int.mul_comm]; exact this)

theorem cost_prices {n : Int} {ps : List Pp} {xs P : List Int} (h : pricesB n ps xs P = true) : costS ps xs = sumV ps xs P n.toNat + sumW P ps := by
  obtain ⟨hh, hPn, hr⟩ := prices_parts h
  have hn := holds_net hh
  obtain ⟨n2, n5, hl7, hpo⟩ := netOk_parts hn
  obtain ⟨hf, hall, hlx⟩ := holds_parts hh
  rw [sumV_all n.toNat P ps xs (fun p hp => by
    obtain ⟨a0, a1, b0, b1, hne, -⟩ := pipeOk_parts (hpo p hp)
    omega) hlx.symm]
  have hmf : sumW P ps = ((ps.zip xs).map fun q => lowT P q.1).sum := by
    have : (ps.zip xs).map (fun q => lowT P q.1) = ps.map (lowT P) := by
      rw [← List.map_fst_zip (l₁ := ps) (l₂ := xs) (by omega), List.map_map, List.map_fst_zip (by omega)]
      rfl
    rw [this]; rfl
  rw [hmf]
  have hc : costS ps xs = ((ps.zip xs).map fun q => lowT P q.1 + ptT P q.1 q.2).sum := by
    unfold costS
    congr 1
    apply List.map_congr_left
    intro q hq
    obtain ⟨k, hk, hqk⟩ := List.getElem_of_mem hq
    have hkp : k < ps.length := by simp at hk; omega
    have hkx : k < xs.length := by simp at hk; omega
    have e : q = (ps[k], xs[k]) := by rw [← hqk]; simp
    have hw := List.all_eq_true.1 hall q hq
    simp only [withinB, Bool.and_eq_true, decide_eq_true_eq] at hw
    rw [e] at hw ⊢
    dsimp only at hw ⊢
    have e0 : ps.getD k zeroPp = ps[k] := by simp [List.getD_eq_getElem?_getD, hkp]
    have ex : xs.getD k 0 = xs[k] := by simp [List.getD_eq_getElem?_getD, hkx]
    have e1 : (2 * k) % 2 = 0 := by omega
    have e2 : (2 * k) / 2 = k := by omega
    have e3 : (2 * k + 1) % 2 = 1 := by omega
    have e4 : (2 * k + 1) / 2 = k := by omega
    have r0 : stRoom ps xs (2 * k) = ps[k].mo - xs[k] := by rw [stRoom, if_neg (by omega), e2, e0, ex]
    have r1 : stRoom ps xs (2 * k + 1) = xs[k] - ps[k].le := by rw [stRoom, if_pos e3, e4, e0, ex]
    have a1 : stFr ps (2 * k) = ps[k].fr := by rw [stFr, if_neg (by omega), e2, e0]
    have a2 : stTo ps (2 * k) = ps[k].to := by rw [stTo, if_neg (by omega), e2, e0]
    have a3 : stCo ps (2 * k) = ps[k].co := by rw [stCo, if_neg (by omega), e2, e0]
    have b1 : stFr ps (2 * k + 1) = ps[k].to := by rw [stFr, if_pos e3, e4, e0]
    have b2 : stTo ps (2 * k + 1) = ps[k].fr := by rw [stTo, if_pos e3, e4, e0]
    have b3 : stCo ps (2 * k + 1) = -ps[k].co := by rw [stCo, if_pos e3, e4, e0]
    refine pipe_cost hw.1 hw.2 (fun hlt => ?_) (fun hlt => ?_)
    · have a := hr (2 * k) (stL_mem.2 ⟨by omega, by rw [r0]; omega⟩)
      rw [a1, a2, a3] at a; exact a
    · have b := hr (2 * k + 1) (stL_mem.2 ⟨by omega, by rw [r1]; omega⟩)
      rw [b1, b2, b3] at b; omega
  rw [hc, sum_add]
  omega

/- bounds -/
theorem mul_bnd {x y A B : Int} (h1 : -A ≤ x ∧ x ≤ A) (h2 : -B ≤ y ∧ y ≤ B) : -(A * B) ≤ x * y ∧ x * y ≤ A * B := by
  have hA : 0 ≤ A := by omega
  have hB : 0 ≤ B := by omega
  have a1 : 0 ≤ (A - x) * (B - y) := Int.mul_nonneg (by omega) (by omega)
  have a2 : 0 ≤ (A + x) * (B + y) := Int.mul_nonneg (by omega) (by omega)
  have a3 : 0 ≤ (A - x) * (B + y) := Int.mul_nonneg (by omega) (by omega)
  have a4 : 0 ≤ (A + x) * (B - y) := Int.mul_nonneg (by omega) (by omega)
  rw [Int.sub_mul, Int.mul_sub, Int.mul_sub] at a1
  rw [Int.add_mul, Int.mul_add, Int.mul_add] at a2
  rw [Int.sub_mul, Int.mul_add, Int.mul_add] at a3
  rw [Int.add_mul, Int.mul_sub, Int.mul_sub] at a4
  omega
theorem sumV_bd {n : Int} {ps : List Pp} {xs P : List Int} (hf : flowOkB n ps xs = true) (hP : ∀ v, -1000 ≤ P.getD v 0 ∧ P.getD v 0 ≤ 1000) (k : Nat) : -(280000 * (k : Int)) ≤ sumV ps xs P k ∧ sumV ps xs P k ≤ 280000 * (k : Int) := by
  induction k with
  | zero => simp [sumV]
  | succ k ih =>
    rw [sumV_succ]
    have := mul_bnd (A := 280) (B := 1000) (exc_bd7 hf (k : Int)) (hP k)
    push_cast
    omega
theorem lowT_bd {P : List Int} {p : Pp} (hP : ∀ v, -1000 ≤ P.getD v 0 ∧ P.getD v 0 ≤ 1000) (hc : -9 ≤ p.co ∧ p.co ≤ 9) (h0 : 0 ≤ p.le) (h1 : p.le ≤ p.mo) (h2 : p.mo ≤ 4) : (-2009 ≤ lftP P p ∧ lftP P p ≤ 2009) ∧ -8036 ≤ lowT P p ∧ lowT P p ≤ 8036 := by
  have hl : -2009 ≤ lftP P p ∧ lftP P p ≤ 2009 := by
    have a := hP p.fr.toNat
    have b := hP p.to.toNat
    unfold lftP
    omega
  refine ⟨hl, ?_⟩
  unfold lowT
  split
  · have := mul_bnd (A := 2009) (B := 4) hl (⟨by omega, by omega⟩ : -4 ≤ p.mo ∧ p.mo ≤ 4); omega
  · have := mul_bnd (A := 2009) (B := 4) hl (⟨by omega, by omega⟩ : -4 ≤ p.le ∧ p.le ≤ 4); omega
theorem sumW_bd {P : List Int} {ps : List Pp} (hP : ∀ v, -1000 ≤ P.getD v 0 ∧ P.getD v 0 ≤ 1000) (hc : ∀ p ∈ ps, (-9 ≤ p.co ∧ p.co ≤ 9) ∧ 0 ≤ p.le ∧ p.le ≤ p.mo ∧ p.mo ≤ 4) : -(8036 * (ps.length : Int)) ≤ sumW P ps ∧ sumW P ps ≤ 8036 * (ps.length : Int) := by
  induction ps with
  | nil => simp [sumW]
  | cons p ps ih =>
    have h1 := ih (fun q hq => hc q (by simp [hq]))
    obtain ⟨c1, c2, c3, c4⟩ := hc p (by simp)
    have h2 := (lowT_bd hP c1 c2 c3 c4).2
    have e : sumW P (p :: ps) = lowT P p + sumW P ps := by simp [sumW]
    rw [e]
    simp only [List.length_cons]
    push_cast
    omega

end Go.Proofs.Ytphbmlephldaaaa
