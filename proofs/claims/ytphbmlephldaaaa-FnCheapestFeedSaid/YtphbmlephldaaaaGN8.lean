/- Plain facts. -/
import Derived.Test.YtphbmlephldaaaaGN36
import Derived.Test.YtphbmlephldaaaaGN13
import Derived.Test.YtphbmlephldaaaaGN31
import Derived.Test.YtphbmlephldaaaaW3
/- Plain facts, chapter 6: prices, settled in rounds. -/
namespace Go.Proofs.Ytphbmlephldaaaa
open Go.RowKit

def prc1 (ps : List Pp) (P : List Int) (s : Nat) : List Int := P.set (stTo ps s).toNat (min (P.getD (stTo ps s).toNat 0) (P.getD (stFr ps s).toNat 0 + stCo ps s))
def prcL (ps : List Pp) (S : List Nat) (P : List Int) : List Int := S.foldl (prc1 ps) P
def prcN (ps : List Pp) (S : List Nat) (n : Nat) : Nat → List Int
  | 0 => List.replicate n 0
  | r + 1 => prcL ps S (prcN ps S n r)

/-- prices are right for steps -/
def rightP (ps : List Pp) (S : List Nat) (P : List Int) : Prop := ∀ s ∈ S, P.getD (stTo ps s).toNat 0 ≤ P.getD (stFr ps s).toNat 0 + stCo ps s

section
variable {n : Nat} {ps : List Pp} {S : List Nat} {P : List Int} {a b : Int}

def insS (n : Nat) (ps : List Pp) (S : List Nat) : Prop := ∀ s ∈ S, s < 2 * ps.length ∧ (0 ≤ stFr ps s ∧ stFr ps s < n) ∧ (0 ≤ stTo ps s ∧ stTo ps s < n) ∧ stFr ps s ≠ stTo ps s

theorem prc1_len (ps : List Pp) (P : List Int) (s : Nat) : (prc1 ps P s).length = P.length := by simp [prc1]
theorem prcL_len (ps : List Pp) (S : List Nat) (P : List Int) : (prcL ps S P).length = P.length := by
  induction S generalizing P with
  | nil => rfl
  | cons s S ih => exact (ih (P := prc1 ps P s)).trans (prc1_len ps P s)
theorem prcN_len (ps : List Pp) (S : List Nat) (n r : Nat) : (prcN ps S n r).length = n := by
  induction r with
  | zero => simp [prcN]
  | succ r ih => rw [prcN, prcL_len, ih]
theorem prcL_snoc (ps : List Pp) (S : List Nat) (P : List Int) (k : Nat) (hk : k < S.length) : prcL ps (S.take (k + 1)) P = prc1 ps (prcL ps (S.take k) P) S[k] := by
  rw [prcL, List.take_succ_eq_append_getElem hk, List.foldl_append]; rfl

theorem prc1_get {s : Nat} (hs : (stTo ps s).toNat < P.length) (v : Nat) : (prc1 ps P s).getD v 0 = if (stTo ps s).toNat = v then min (P.getD v 0) (P.getD (stFr ps s).toNat 0 + stCo ps s) else P.getD v 0 := by
  rw [prc1, getD_set _ _ _ _ _ hs]
  split
  · next h => rw [h]
  · rfl

theorem prc1_le {s : Nat} (hs : (stTo ps s).toNat < P.length) (v : Nat) : (prc1 ps P s).getD v 0 ≤ P.getD v 0 := by
  rw [prc1_get hs]; split <;> omega

/-- each price is the cost of a walk of steps -/
def walkP6 (ps : List Pp) (S : List Nat) (n : Nat) (P : List Int) : Prop := P.length = n ∧ ∀ v : Nat, v < n → ∃ (a : Int) (l : List Nat), chain ps a v l ∧ (∀ s ∈ l, s ∈ S) ∧ coL ps l = P.getD v 0 ∧ (0 ≤ a ∧ a < n)

theorem prc1_walk (hS : insS n ps S) {s : Nat} (hs : s ∈ S) (h : walkP6 ps S n P) : walkP6 ps S n (prc1 ps P s) := by
  obtain ⟨h1, h2, h3, h4⟩ := hS s hs
  refine ⟨by rw [prc1_len]; exact h.1, fun v hv => ?_⟩
  rw [prc1_get (by rw [h.1]; omega)]
  split
  · next e =>
    rcases Int.le_total (P.getD v 0) (P.getD (stFr ps s).toNat 0 + stCo ps s) with hm | hm
    · rw [Int.min_eq_left hm]; exact h.2 v hv
    · rw [Int.min_eq_right hm]
      obtain ⟨a, l, g1, g2, g3, g4⟩ := h.2 (stFr ps s).toNat (by omega)
      rw [Int.toNat_of_nonneg h2.1] at g1
      have ev : (v : Int) = stTo ps s := by omega
      refine ⟨a, l ++ [s], ?_, ?_, ?_, g4⟩
      · rw [ev]; exact chain_append.2 ⟨_, g1, chain_one h1⟩
      · intro t ht
        rcases List.mem_append.1 ht with ht | ht
        · exact g2 t ht
        · simp at ht; subst ht; exact hs
      · rw [coL_snoc, g3]
  · exact h.2 v hv

theorem prcL_walk (hS : insS n ps S) {F : List Nat} (hF : ∀ s ∈ F, s ∈ S) (h : walkP6 ps S n P) : walkP6 ps S n (prcL ps F P) := by
  induction F generalizing P with
  | nil => exact h
  | cons s F ih => exact ih (fun t ht => hF t (by simp [ht])) (prc1_walk hS (hF s (by simp)) h)

theorem prcN_walk (hS : insS n ps S) (r : Nat) : walkP6 ps S n (prcN ps S n r) := by
  induction r with
  | zero =>
    refine ⟨by simp [prcN], fun v hv => ⟨v, [], rfl, by simp, ?_, by omega, by omega⟩⟩
    simp [prcN, coL, List.getD, hv]
  | succ r ih => exact prcL_walk hS (fun _ h => h) ih

theorem prcL_low (hS : insS n ps S) {F : List Nat} (hF : ∀ s ∈ F, s ∈ S) (hl : P.length = n) : (∀ v, (prcL ps F P).getD v 0 ≤ P.getD v 0) ∧ ∀ s ∈ F, (prcL ps F P).getD (stTo ps s).toNat 0 ≤ P.getD (stFr ps s).toNat 0 + stCo ps s := by
  induction F generalizing P with
  | nil => exact ⟨fun v => Int.le_refl _, by simp⟩
  | cons s F ih =>
    obtain ⟨h1, h2, h3, h4⟩ := hS s (hF s (by simp))
    have hto : (stTo ps s).toNat < P.length := by omega
    obtain ⟨g1, g2⟩ := ih (P := prc1 ps P s) (fun t ht => hF t (by simp [ht])) (by rw [prc1_len]; exact hl)
    have e : prcL ps (s :: F) P = prcL ps F (prc1 ps P s) := rfl
    rw [e]
    refine ⟨fun v => Int.le_trans (g1 v) (prc1_le hto v), fun t ht => ?_⟩
    rcases List.mem_cons.1 ht with rfl | ht
    · refine Int.le_trans (g1 _) ?_
      rw [prc1_get hto, if_pos rfl]
      omega
    · refine Int.le_trans (g2 t ht) ?_
      have := prc1_le hto (stFr ps t).toNat
      omega

/-- after r rounds a price is at most the cost of each walk of at most r steps -/
theorem prcN_low (hS : insS n ps S) : ∀ (r : Nat) (l : List Nat) (a : Int) (v : Nat), v < n → chain ps a v l → (∀ s ∈ l, s ∈ S) → l.length ≤ r → (prcN ps S n r).getD v 0 ≤ coL ps l := by
  intro r
  induction r with
  | zero =>
    intro l a v hv hc hl h0
    have : l = [] := List.length_eq_zero_iff.1 (by omega)
    subst this
    simp [prcN, coL, List.getD, hv]
  | succ r ih =>
    intro l a v hv hc hl h0
    have hlow := prcL_low (P := prcN ps S n r) hS (fun _ h => h) (prcN_len ps S n r)
    rw [prcN]
    rcases List.eq_nil_or_concat l with rfl | ⟨q, s, rfl⟩
    · exact Int.le_trans (hlow.1 v) (ih [] a v hv hc hl (by simp))
    · rw [List.concat_eq_append] at *
      obtain ⟨c, g1, g2⟩ := chain_append.1 hc
      obtain ⟨g3, g4, g5⟩ := g2
      have hs := hl s (by simp)
      obtain ⟨h1, h2, h3, h4⟩ := hS s hs
      have g5 : stTo ps s = v := g5
      have hq := ih q a (stFr ps s).toNat (by omega) (by rw [Int.toNat_of_nonneg h2.1, g4]; exact g1) (fun t ht => hl t (by simp [ht])) (by simp at h0; omega)
      have := hlow.2 s hs
      have ev : (stTo ps s).toNat = v := by omega
      rw [ev] at this
      rw [coL_snoc]
      omega

/-- if no ring gains, a walk may be made simple without more cost -/
theorem walk_simple (hR : ∀ r, ringK ps S r → 0 ≤ coL ps r) : ∀ (l : List Nat) (a b : Int), chain ps a b l → (∀ s ∈ l, s ∈ S) → (∀ s ∈ S, stFr ps s ≠ stTo ps s) →
    ∃ l', chain ps a b l' ∧ (∀ s ∈ l', s ∈ S) ∧ (l'.map (stFr ps) ++ [b]).Nodup ∧ coL ps l' ≤ coL ps l := by
  intro l
  induction l with
  | nil => intro a b h _ _; exact ⟨[], h, by simp, by simp, Int.le_refl _⟩
  | cons s l ih =>
    intro a b h hl hne
    have hs := hl s (by simp)
    obtain ⟨l', h1, h2, h3, h4⟩ := ih (stTo ps s) b h.2.2 (fun t ht => hl t (by simp [ht])) hne
    by_cases hin : a ∈ l'.map (stFr ps) ++ [b]
    · obtain ⟨l1, l2, rfl, g1, g2, g3⟩ := chain_split h1 hin
      have hfa : stFr ps s = a := h.2.1
      have hring : ringK ps S (s :: l1) := by
        refine ⟨by simp, ?_, ?_, a, h.1, hfa, g1⟩
        · intro t ht
          rcases List.mem_cons.1 ht with rfl | ht
          · exact hs
          · exact h2 t (by simp [ht])
        · rw [List.map_cons, List.nodup_cons, hfa]
          refine ⟨g3, ?_⟩
          rw [List.map_append, List.append_assoc, List.nodup_append] at h3
          exact h3.1
      have := hR _ hring
      refine ⟨l2, g2, fun t ht => h2 t (by simp [ht]), ?_, ?_⟩
      · rw [List.map_append, List.append_assoc, List.nodup_append] at h3
        exact h3.2.1
      · rw [coL_append] at h4
        rw [coL_cons] at this ⊢
        omega
    · refine ⟨s :: l', ⟨h.1, h.2.1, h1⟩, ?_, ?_, ?_⟩
      · intro t ht
        rcases List.mem_cons.1 ht with rfl | ht
        · exact hs
        · exact h2 t ht
      · rw [List.map_cons, List.cons_append, List.nodup_cons, h.2.1]
        exact ⟨hin, h3⟩
      · rw [coL_cons, coL_cons]; omega

theorem simple_len (hS : insS n ps S) {l : List Nat} (hl : ∀ s ∈ l, s ∈ S) (hb : 0 ≤ b ∧ b < n) (h : (l.map (stFr ps) ++ [b]).Nodup) : l.length + 1 ≤ n := by
  have := nodup_len6 n _ h (by
    intro x hx
    rcases List.mem_append.1 hx with hx | hx
    · obtain ⟨e, he, rfl⟩ := List.mem_map.1 hx
      exact (hS e (hl e he)).2.1
    · simp at hx; subst hx; exact hb)
  simpa using this

/-- without a ring that gains the prices are right after fewer rounds than there are nodes -/
theorem prc_right (hS : insS n ps S) (hR : ∀ r, ringK ps S r → 0 ≤ coL ps r) : rightP ps S (prcN ps S n (n - 1)) := by
  intro s hs
  obtain ⟨h1, h2, h3, h4⟩ := hS s hs
  obtain ⟨a, l, g1, g2, g3, g4⟩ := (prcN_walk hS (n - 1)).2 (stFr ps s).toNat (by omega)
  rw [Int.toNat_of_nonneg h2.1] at g1
  obtain ⟨l', k1, k2, k3, k4⟩ := walk_simple hR (l ++ [s]) a (stTo ps s) (chain_append.2 ⟨_, g1, chain_one h1⟩) (by
    intro t ht
    rcases List.mem_append.1 ht with ht | ht
    · exact g2 t ht
    · simp at ht; subst ht; exact hs) (fun t ht => (hS t ht).2.2.2)
  have hlen := simple_len hS k2 h3 k3
  have := prcN_low hS (n - 1) l' a (stTo ps s).toNat (by omega) (by rw [Int.toNat_of_nonneg h3.1]; exact k1) k2 (by omega)
  rw [coL_snoc, g3] at k4
  omega

theorem right_stay1 (hS : insS n ps S) {s : Nat} (hs : s ∈ S) (h : rightP ps S P) (hl : P.length = n) : prc1 ps P s = P := by
  obtain ⟨h1, h2, h3, h4⟩ := hS s hs
  refine ext_getD (by rw [prc1_len]) fun v _ => ?_
  rw [prc1_get (by omega)]
  split
  · next e => subst e; exact Int.min_eq_left (h s hs)
  · rfl

theorem right_stay (hS : insS n ps S) {F : List Nat} (hF : ∀ s ∈ F, s ∈ S) (h : rightP ps S P) (hl : P.length = n) : prcL ps F P = P := by
  induction F with
  | nil => rfl
  | cons s F ih =>
    have e : prcL ps (s :: F) P = prcL ps F (prc1 ps P s) := rfl
    rw [e, right_stay1 hS (hF s (by simp)) h hl]
    exact ih fun t ht => hF t (by simp [ht])

theorem stay_right (hS : insS n ps S) (hl : P.length = n) (h : prcL ps S P = P) : rightP ps S P := by
  intro s hs
  have := (prcL_low (P := P) hS (fun _ h => h) hl).2 s hs
  rwa [h] at this

/-- over walks right prices add up -/
theorem right_walk (h : rightP ps S P) : ∀ (l : List Nat) (a b : Int), chain ps a b l → (∀ s ∈ l, s ∈ S) → P.getD b.toNat 0 ≤ P.getD a.toNat 0 + coL ps l := by
  intro l
  induction l with
  | nil => intro a b hc _; have hc : a = b := hc; subst hc; simp [coL]
  | cons s l ih =>
    intro a b hc hl
    have h1 := ih (stTo ps s) b hc.2.2 (fun t ht => hl t (by simp [ht]))
    have h2 := h s (hl s (by simp))
    rw [hc.2.1] at h2
    rw [coL_cons]
    omega

theorem right_ring (h : rightP ps S P) {r : List Nat} (hr : ringK ps S r) : 0 ≤ coL ps r := by
  obtain ⟨-, h2, -, a, h4⟩ := hr
  have := right_walk h r a a h4 h2
  omega

theorem prcN_stay (hS : insS n ps S) {r : Nat} (h : rightP ps S (prcN ps S n r)) (j : Nat) : prcN ps S n (r + j) = prcN ps S n r := by
  induction j with
  | zero => rfl
  | succ j ih =>
    have e : prcN ps S n (r + (j + 1)) = prcL ps S (prcN ps S n (r + j)) := rfl
    rw [e, ih]
    exact right_stay hS (fun _ h => h) h (prcN_len ps S n r)

/-- prices that are settled: none is more than 0, some is 0 -/
theorem prc_top (hS : insS n ps S) {r : Nat} (h : rightP ps S (prcN ps S n r)) (hn : 0 < n) : (∀ v, (prcN ps S n r).getD v 0 ≤ 0) ∧ ∃ v, v < n ∧ (prcN ps S n r).getD v 0 = 0 := by
  have h0 : ∀ v, (prcN ps S n r).getD v 0 ≤ 0 := by
    intro v
    by_cases hv : v < n
    · exact prcN_low hS r [] v v hv rfl (by simp) (by simp)
    · rw [List.getD_eq_getElem?_getD, List.getElem?_eq_none (by rw [prcN_len]; omega)]
      simp
  refine ⟨h0, ?_⟩
  obtain ⟨a, l, g1, g2, g3, g4⟩ := (prcN_walk hS r).2 0 hn
  have := right_walk h l a 0 g1 g2
  have h1 := h0 a.toNat
  refine ⟨a.toNat, by omega, ?_⟩
  have e : ((0 : Int)).toNat = 0 := rfl
  rw [g3, e] at this
  omega
end

section
variable {n : Int} {ps : List Pp} {xs : List Int}

theorem stL_ins (hn : netOkB n ps = true) (xs : List Int) : insS n.toNat ps (stL ps xs) := by
  intro s hs
  have h := st_ends hn (stL_mem.1 hs).1
  have hb := netOk_parts hn
  exact ⟨(stL_mem.1 hs).1, by omega, by omega, h.2.2⟩

/-- what PricesFor answers -/
def pricedB (n : Int) (ps : List Pp) (xs : List Int) : Bool := holdsB n ps xs && !gainsB n ps xs
def priceR (n : Int) (ps : List Pp) (xs : List Int) : List Int := if pricedB n ps xs = true then prcN ps (stL ps xs) n.toNat n.toNat else []

theorem priced_parts (h : pricedB n ps xs = true) : holdsB n ps xs = true ∧ gainsB n ps xs = false := by simpa [pricedB] using h

theorem price_right (h : pricedB n ps xs = true) : rightP ps (stL ps xs) (prcN ps (stL ps xs) n.toNat (n.toNat - 1)) := by
  obtain ⟨hh, hg⟩ := priced_parts h
  refine prc_right (stL_ins (holds_net hh) xs) fun r hr => gain_none hh ?_ hr
  simpa [gainsB] using hg

theorem price_last (h : pricedB n ps xs = true) : prcN ps (stL ps xs) n.toNat n.toNat = prcN ps (stL ps xs) n.toNat (n.toNat - 1) := by
  have hn := holds_net (priced_parts h).1
  have hb := netOk_parts hn
  have := prcN_stay (stL_ins hn xs) (price_right h) 1
  rwa [show n.toNat - 1 + 1 = n.toNat by omega] at this

/-- a round that changes nothing comes just if no ring gains -/
theorem settled (hh : holdsB n ps xs = true) {r : Nat} (hr : prcL ps (stL ps xs) (prcN ps (stL ps xs) n.toNat r) = prcN ps (stL ps xs) n.toNat r) : pricedB n ps xs = true ∧ (r < n.toNat → priceR n ps xs = prcN ps (stL ps xs) n.toNat r) := by
  have hn := holds_net hh
  have hS := stL_ins hn xs
  have hright := stay_right hS (prcN_len _ _ _ _) hr
  have hp : pricedB n ps xs = true := by
    rw [pricedB, hh]
    simp only [Bool.true_and, Bool.not_eq_true']
    rw [Bool.eq_false_iff]
    intro hg
    have := gainR_ok hg
    have h1 := right_ring hright this.1
    omega
  refine ⟨hp, fun hlt => ?_⟩
  rw [priceR, if_pos hp]
  have := prcN_stay hS hright (n.toNat - r)
  rwa [show r + (n.toNat - r) = n.toNat by omega] at this

theorem unsettled (hh : holdsB n ps xs = true) (hr : prcL ps (stL ps xs) (prcN ps (stL ps xs) n.toNat (n.toNat - 1)) ≠ prcN ps (stL ps xs) n.toNat (n.toNat - 1)) : pricedB n ps xs = false := by
  rw [Bool.eq_false_iff]
  intro h
  exact hr (right_stay (stL_ins (holds_net hh) xs) (fun _ h => h) (price_right h) (prcN_len _ _ _ _))

theorem priceR_len (n : Int) (ps : List Pp) (xs : List Int) : (priceR n ps xs).length ≤ 5 := by
  by_cases h : pricedB n ps xs = true
  · have := netOk_parts (holds_net (priced_parts h).1)
    rw [priceR, if_pos h, prcN_len]
    omega
  · rw [priceR, if_neg h]; simp
end

end Go.Proofs.Ytphbmlephldaaaa

/- Contracts of the functions of chapter 6 in the program: PricesOk, for prices that are not large. -/
namespace Go.Proofs.Ytphbmlephldaaaa
open Go.RowKit

/-- a step costs less than the prices of its ends differ -/
def badP (ps : List Pp) (P : List Int) (s : Nat) : Bool := decide (P.getD (stFr ps s).toNat 0 + stCo ps s < P.getD (stTo ps s).toNat 0)
def pricesB (n : Int) (ps : List Pp) (xs P : List Int) : Bool := holdsB n ps xs && (decide ((P.length : Int) = n) && !((stL ps xs).any (badP ps P)))
def smallP (P : List Int) : Prop := ∀ v, -1000 ≤ P.getD v 0 ∧ P.getD v 0 ≤ 1000

theorem prices_hold {n : Int} {ps : List Pp} {xs P : List Int} (h : holdsB n ps xs = false) : pricesB n ps xs P = false := by simp [pricesB, h]
theorem prices_len {n : Int} {ps : List Pp} {xs P : List Int} (h : (P.length : Int) ≠ n) : pricesB n ps xs P = false := by simp [pricesB, h]
theorem prices_yes {n : Int} {ps : List Pp} {xs P : List Int} (h : holdsB n ps xs = true) (hl : (P.length : Int) = n) : pricesB n ps xs P = !((stL ps xs).any (badP ps P)) := by simp [pricesB, h, hl]

end Go.Proofs.Ytphbmlephldaaaa
