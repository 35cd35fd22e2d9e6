/- Prices tell a least cost, plain. -/
import Derived.Test.YtialdelfmmdfjaaK6
namespace Go.Proofs.Ytialdelfmmdfjaa
open Go.RowKit

theorem priced_right {n : Int} {ps : List Pp} {xs : List Int} (h : pricedB n ps xs = true) : pricesB n ps xs (priceR n ps xs) = true := by
  obtain ⟨hh, hg⟩ := priced_parts h
  have hn := holds_net hh
  obtain ⟨n2, n5, hl7, -⟩ := netOk_parts hn
  have hins := stL_ins hn xs
  have e : priceR n ps xs = prcN ps (stL ps xs) n.toNat n.toNat := by rw [priceR, if_pos h]
  have hr := price_right h
  have hlast := price_last h
  rw [← hlast] at hr
  have hlen : (priceR n ps xs).length = n.toNat := by rw [e, prcN_len]
  rw [prices_yes hh (by rw [hlen]; omega), Bool.not_eq_true', List.any_eq_false]
  intro s hs
  have := hr s hs
  rw [e, badP]
  intro hb
  have := of_decide_eq_true hb
  omega

theorem pipe_least {P : List Int} {p : Pp} {y : Int} (h0 : p.le ≤ y) (h1 : y ≤ p.mo) : lowT P p + ptT P p y ≤ costT p y := by
  unfold lowT lftP ptT costT
  generalize P.getD p.to.toNat 0 = T at *
  generalize P.getD p.fr.toNat 0 = F at *
  generalize p.co = c at *
  have key : y * c = (c + F - T) * y + (y * T - y * F) := by
    rw [Int.sub_mul, Int.add_mul, Int.mul_comm y c, Int.mul_comm y T, Int.mul_comm y F]; omega
  rw [key]
  generalize c + F - T = l at *
  split
  · rename_i hl
    have : 0 ≤ (-l) * (p.mo - y) := Int.mul_nonneg (by omega) (by omega)
    rw [Int.neg_mul, Int.mul_sub] at this
    omega
  · rename_i hl
    have : 0 ≤ l * (y - p.le) := Int.mul_nonneg (by omega) (by omega)
    rw [Int.mul_sub] at this
    omega

theorem sum_le {α : Type} (L : List α) (f g : α → Int) (h : ∀ q ∈ L, f q ≤ g q) : (L.map f).sum ≤ (L.map g).sum := by
  induction L with
  | nil => simp
  | cons a L ih =>
    simp only [List.map_cons, List.sum_cons]
    have := h a (by simp)
    have := ih (fun q hq => h q (by simp [hq]))
    omega

theorem sumV_eq {ps : List Pp} {xs ys P : List Int} {N : Nat} (h : ∀ v : Nat, v < N → exc (v : Int) ps xs = exc (v : Int) ps ys) : sumV ps xs P N = sumV ps ys P N := by
  unfold sumV
  congr 1
  apply List.map_congr_left
  intro v hv
  rw [h v (List.mem_range.1 hv)]

theorem least_cost {n : Int} {ps : List Pp} {xs ys P : List Int} (h : pricesB n ps xs P = true) (hy : holdsB n ps ys = true) (he : ∀ v : Nat, (v : Int) < n → exc (v : Int) ps xs = exc (v : Int) ps ys) : costS ps xs ≤ costS ps ys := by
  have hn := holds_net hy
  obtain ⟨n2, n5, hl7, hpo⟩ := netOk_parts hn
  obtain ⟨hf, hall, hlx⟩ := holds_parts hy
  rw [cost_prices h, sumV_eq (N := n.toNat) (fun v hv => he v (by omega)), sumV_all n.toNat P ps ys (fun p hp => by
    obtain ⟨a0, a1, b0, b1, hne, -⟩ := pipeOk_parts (hpo p hp)
    omega) hlx.symm]
  have hmf : sumW P ps = ((ps.zip ys).map fun q => lowT P q.1).sum := by
    have : (ps.zip ys).map (fun q => lowT P q.1) = ps.map (lowT P) := by
      rw [← List.map_fst_zip (l₁ := ps) (l₂ := ys) (by omega), List.map_map, List.map_fst_zip (by omega)]
      rfl
    rw [this]; rfl
  have hs := sum_le (ps.zip ys) (fun q => lowT P q.1 + ptT P q.1 q.2) (fun q => costT q.1 q.2) (fun q hq => by
    have hw := List.all_eq_true.1 hall q hq
    simp only [withinB, Bool.and_eq_true, decide_eq_true_eq] at hw
    exact pipe_least hw.1 hw.2)
  rw [sum_add] at hs
  rw [hmf]
  unfold costS
  omega

end Go.Proofs.Ytialdelfmmdfjaa
