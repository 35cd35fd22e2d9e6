/- The net of a term, plain: it is free, and its least room is what the term carries. -/
import Derived.Test.YtnefafpfeagflaaHA
import Derived.Test.YtnefafpfeagflaaMG
namespace Go.Proofs.Ytnefafpfeagflaa
open Go.RowKit

theorem placeT_in (T : Tm) : ∀ (N f t n : Int), T.good → (0 ≤ f ∧ f < n) → (0 ≤ t ∧ t < n) → f ≠ t → n + T.thens ≤ N →
    ∀ p ∈ placeT T f t n, pipeOkB N p.fr p.to p.le p.mo p.co = true ∧ p.le = 0 := by
  induction T with
  | pipe h p =>
    intro N f t n hg hf ht hne hN q hq
    obtain ⟨h1, h2⟩ := hg
    simp only [placeT, List.mem_singleton] at hq
    subst hq
    refine ⟨?_, rfl⟩
    simp only [pipeOkB, withinB, Bool.and_eq_true, decide_eq_true_eq]
    simp only [Tm.thens] at hN
    refine ⟨⟨⟨⟨⟨⟨⟨?_, ?_⟩, ?_, ?_⟩, hne⟩, ?_⟩, ?_⟩, ?_⟩, ?_, ?_⟩ <;> omega
  | two s a b iha ihb =>
    intro N f t n hg hf ht hne hN q hq
    simp only [Tm.thens] at hN
    cases s
    · simp only [placeT, Bool.false_eq_true, if_false, List.mem_append] at hq hN
      rcases hq with hq | hq
      · exact iha N f n (n + 1) hg.1 ⟨hf.1, by omega⟩ ⟨by omega, by omega⟩ (by omega) (by omega) q hq
      · exact ihb N n t (n + 1 + a.thens) hg.2 ⟨by omega, by omega⟩ ⟨ht.1, by omega⟩ (by omega) (by omega) q hq
    · simp only [placeT, if_true, List.mem_append] at hq hN
      rcases hq with hq | hq
      · exact iha N f t n hg.1 hf ht hne (by omega) q hq
      · exact ihb N f t (n + a.thens) hg.2 ⟨hf.1, by omega⟩ ⟨ht.1, by omega⟩ hne (by omega) q hq

theorem ok_ends {N : Int} {p : Pp} (h : pipeOkB N p.fr p.to p.le p.mo p.co = true) : (0 ≤ p.fr ∧ p.fr < N) ∧ (0 ≤ p.to ∧ p.to < N) := by
  simp only [pipeOkB, withinB, Bool.and_eq_true, decide_eq_true_eq] at h
  omega

theorem net_free (T : Tm) (hg : T.good) (h7 : T.pipes ≤ 7) (h3 : T.thens ≤ 3) : freeB ((T.thens : Int) + 2) (placeT T 0 1 2) = true := by
  have h := placeT_in T ((T.thens : Int) + 2) 0 1 2 hg (by omega) (by omega) (by omega) (by omega)
  simp only [freeB, netOkB, withinB, Bool.and_eq_true, decide_eq_true_eq, List.all_eq_true]
  exact ⟨⟨⟨⟨by omega, by omega⟩, by rw [placeT_len]; exact h7⟩, fun p hp => (h p hp).1⟩, fun p hp => (h p hp).2⟩

def roomS (S : Int → Bool) (ps : List Pp) : Int := (ps.map fun p => if S p.fr && !S p.to then p.mo else 0).sum
theorem roomS_append (S : Int → Bool) (ps qs : List Pp) : roomS S (ps ++ qs) = roomS S ps + roomS S qs := by simp [roomS]
theorem roomS_congr {S S' : Int → Bool} : ∀ {ps : List Pp}, (∀ p ∈ ps, S p.fr = S' p.fr ∧ S p.to = S' p.to) → roomS S ps = roomS S' ps
  | [], _ => rfl
  | p :: ps, h => by
    have h1 := h p (by simp)
    have ih := roomS_congr (S := S) (S' := S') (ps := ps) fun q hq => h q (by simp [hq])
    simp only [roomS, List.map_cons, List.sum_cons, h1.1, h1.2] at ih ⊢
    rw [ih]
theorem room_fun (s : Int) : ∀ {ps : List Pp}, (∀ p ∈ ps, p.le = 0) → room s ps = roomS (bitB s) ps
  | [], _ => rfl
  | p :: ps, h => by
    have h1 := h p (by simp)
    have ih := room_fun s (ps := ps) fun q hq => h q (by simp [hq])
    rw [room_cons, ih]
    simp only [roomS, List.map_cons, List.sum_cons, acT, partsB, h1]
    congr 1
    split
    · rfl
    · split <;> rfl

theorem roomS_low (T : Tm) : ∀ (S : Int → Bool) (f t n : Int), T.good → S f = true → S t = false → T.carry ≤ roomS S (placeT T f t n) := by
  induction T with
  | pipe h p =>
    intro S f t n _ hf ht
    simp [placeT, roomS, Tm.carry, hf, ht]
  | two s a b iha ihb =>
    intro S f t n hg hf ht
    have ca := a.carry_bd hg.1; have cb := b.carry_bd hg.2
    have nn : ∀ (U : Tm), U.good → ∀ (f t n : Int), 0 ≤ roomS S (placeT U f t n) := by
      intro U
      induction U with
      | pipe h p => intro hU f t n; obtain ⟨h1, -⟩ := hU; simp only [placeT, roomS, List.map_cons, List.map_nil, List.sum_cons, List.sum_nil]; split <;> omega
      | two s c d ihc ihd =>
        intro hU f t n
        cases s
        · simp only [placeT, Bool.false_eq_true, if_false, roomS_append]
          have := ihc hU.1 f n (n + 1); have := ihd hU.2 n t (n + 1 + c.thens); omega
        · simp only [placeT, if_true, roomS_append]
          have := ihc hU.1 f t n; have := ihd hU.2 f t (n + c.thens); omega
    cases s
    · simp only [placeT, Bool.false_eq_true, if_false, roomS_append, Tm.carry]
      cases hm : S n
      · have h1 := iha S f n (n + 1) hg.1 hf hm
        have h2 := nn b hg.2 n t (n + 1 + a.thens)
        omega
      · have h1 := ihb S n t (n + 1 + a.thens) hg.2 hm ht
        have h2 := nn a hg.1 f n (n + 1)
        omega
    · simp only [placeT, if_true, roomS_append, Tm.carry]
      have h1 := iha S f t n hg.1 hf ht
      have h2 := ihb S f t (n + a.thens) hg.2 hf ht
      omega

theorem roomS_same (T : Tm) : ∀ (S : Int → Bool) (v : Bool) (f t n : Int), S f = v → S t = v → (∀ x, n ≤ x → x < n + T.thens → S x = v) → roomS S (placeT T f t n) = 0 := by
  induction T with
  | pipe h p => intro S v f t n hf ht _; simp [placeT, roomS, hf, ht]
  | two s a b iha ihb =>
    intro S v f t n hf ht hx
    simp only [Tm.thens] at hx
    cases s
    · simp only [placeT, Bool.false_eq_true, if_false, roomS_append] at hx ⊢
      have hn : S n = v := hx n (by omega) (by omega)
      rw [iha S v f n (n + 1) hf hn (fun x h1 h2 => hx x (by omega) (by omega)), ihb S v n t (n + 1 + a.thens) hn ht (fun x h1 h2 => hx x (by omega) (by omega))]
      rfl
    · simp only [placeT, if_true, roomS_append] at hx ⊢
      rw [iha S v f t n hf ht (fun x h1 h2 => hx x (by omega) (by omega)), ihb S v f t (n + a.thens) hf ht (fun x h1 h2 => hx x (by omega) (by omega))]
      rfl

theorem roomS_cut (T : Tm) : ∀ (S0 : Int → Bool) (f t n : Int), T.good → (0 ≤ f ∧ f < n) → (0 ≤ t ∧ t < n) → f ≠ t → S0 f = true → S0 t = false →
    ∃ S : Int → Bool, (∀ x, (x < n ∨ n + T.thens ≤ x) → S x = S0 x) ∧ roomS S (placeT T f t n) = T.carry := by
  induction T with
  | pipe h p => intro S0 f t n _ hf ht _ h1 h2; exact ⟨S0, fun _ _ => rfl, by simp [placeT, roomS, h1, h2, Tm.carry]⟩
  | two s a b iha ihb =>
    intro S0 f t n hg hf ht hne h1 h2
    cases s
    · have hpa := placeT_in a (n + 1 + a.thens) f n (n + 1) hg.1 ⟨hf.1, by omega⟩ ⟨by omega, by omega⟩ (by omega) (by omega)
      simp only [placeT, Bool.false_eq_true, if_false, roomS_append, Tm.carry, Tm.thens]
      by_cases hc : a.carry ≤ b.carry
      · obtain ⟨S, hS, hr⟩ := iha (fun x => if x = n then false else S0 x) f n (n + 1) hg.1 ⟨hf.1, by omega⟩ ⟨by omega, by omega⟩ (by omega) (by rw [if_neg (by omega)]; exact h1) (by rw [if_pos rfl])
        refine ⟨fun x => if n + 1 + a.thens ≤ x ∧ x < n + 1 + a.thens + b.thens then false else S x, fun x hx => ?_, ?_⟩
        · dsimp only
          rw [if_neg (by omega), hS x (by omega), if_neg (by omega)]
        · rw [roomS_congr (S' := S) (fun p hp => ?_), hr, roomS_same b _ false n t (n + 1 + a.thens) ?_ ?_ ?_]
          · omega
          · rw [if_neg (by omega), hS n (by omega), if_pos rfl]
          · rw [if_neg (by omega), hS t (by omega), if_neg (by omega)]
            exact h2
          · intro x x1 x2
            (try dsimp only)
            rw [if_pos ⟨x1, x2⟩]
          · have he := ok_ends (hpa p hp).1
            (try dsimp only)
            exact ⟨by rw [if_neg (by omega)], by rw [if_neg (by omega)]⟩
      · obtain ⟨S, hS, hr⟩ := ihb (fun x => if n ≤ x ∧ x < n + 1 + a.thens then true else S0 x) n t (n + 1 + a.thens) hg.2 ⟨by omega, by omega⟩ ⟨ht.1, by omega⟩ (by omega) (by rw [if_pos (by omega)]) (by rw [if_neg (by omega)]; exact h2)
        refine ⟨S, fun x hx => ?_, ?_⟩
        · rw [hS x (by omega)]
          (try dsimp only)
          rw [if_neg (by omega)]
        · rw [hr, roomS_same a S true f n (n + 1) ?_ ?_ ?_]
          · omega
          · rw [hS f (by omega)]
            (try dsimp only)
            rw [if_neg (by omega)]
            exact h1
          · rw [hS n (by omega)]
            (try dsimp only)
            rw [if_pos (by omega)]
          · intro x x1 x2
            rw [hS x (by omega)]
            (try dsimp only)
            rw [if_pos (by omega)]
    · have hpa := placeT_in a (n + a.thens) f t n hg.1 hf ht hne (by omega)
      simp only [placeT, if_true, roomS_append, Tm.carry, Tm.thens]
      obtain ⟨S, hS, hr⟩ := iha S0 f t n hg.1 hf ht hne h1 h2
      obtain ⟨S', hS', hr'⟩ := ihb S f t (n + a.thens) hg.2 ⟨hf.1, by omega⟩ ⟨ht.1, by omega⟩ hne (by rw [hS f (by omega)]; exact h1) (by rw [hS t (by omega)]; exact h2)
      refine ⟨S', fun x hx => ?_, ?_⟩
      · rw [hS' x (by omega), hS x (by omega)]
      · rw [hr', roomS_congr (S' := S) (fun p hp => ?_), hr]
        have he := ok_ends (hpa p hp).1
        exact ⟨hS' _ (by omega), hS' _ (by omega)⟩

theorem tnet_ends (T : Tm) (hg : T.good) (h7 : T.pipes ≤ 7) (h3 : T.thens ≤ 3) : endsB ((T.thens : Int) + 2) (placeT T 0 1 2) 0 1 = true := by
  have h := net_free T hg h7 h3
  simp only [freeB, Bool.and_eq_true] at h
  simp [endsB, h.1, withinB] <;> omega

theorem net_carry (T : Tm) (hg : T.good) (h7 : T.pipes ≤ 7) (h3 : T.thens ≤ 3) : leastI ((T.thens : Int) + 2) (placeT T 0 1 2) 0 1 = T.carry := by
  have he := tnet_ends T hg h7 h3
  have hp := placeT_in T ((T.thens : Int) + 2) 0 1 2 hg (by omega) (by omega) (by omega) (by omega)
  have hn : ((T.thens : Int) + 2).toNat = T.thens + 2 := by omega
  apply Int.le_antisymm
  · obtain ⟨S, hS, hr⟩ := roomS_cut T (fun x => decide (x = 0)) 0 1 2 hg (by omega) (by omega) (by omega) (by simp) (by simp)
    have hb : ∀ v : Int, 0 ≤ v → v < (T.thens : Int) + 2 → bitB (sideOf (fun k => S (k : Int)) (T.thens + 2)) v = S v := by
      intro v h0 h1
      obtain ⟨k, rfl⟩ : ∃ k : Nat, v = (k : Int) := ⟨v.toNat, by omega⟩
      rw [sideOf_bit _ (by omega) (by omega)]
      simp; intro h; omega
    have h0 : S 0 = true := by rw [hS 0 (by omega)]; rfl
    have h1 : S 1 = false := by rw [hS 1 (by omega)]; rfl
    have hin := sideOf_in (fun k => S (k : Int)) (T.thens + 2)
    have hl := least_le (n := (T.thens : Int) + 2) (ps := placeT T 0 1 2) (a := 0) (b := 1) hin.1 (by rw [hn]; exact hin.2) (by rw [partsB, hb 0 (by omega) (by omega), hb 1 (by omega) (by omega), h0, h1]; rfl)
    rw [room_fun _ (fun p h => (hp p h).2), roomS_congr (S' := S) (fun p h => ?_), hr] at hl
    · exact hl
    · have he := ok_ends (hp p h).1
      exact ⟨hb _ (by omega) (by omega), hb _ (by omega) (by omega)⟩
  · obtain ⟨s, -, -, h3, h4⟩ := least_at he
    rw [h4, room_fun _ (fun p h => (hp p h).2)]
    simp only [partsB, Bool.and_eq_true, Bool.not_eq_true'] at h3
    exact roomS_low T _ 0 1 2 hg h3.1 h3.2

def termNetN (ts : List Mk) : Int := if termB ts = true then (tmOf ts).thens + 2 else 0
def termNetL (ts : List Mk) : List Pp := if termB ts = true then placeT (tmOf ts) 0 1 2 else []
theorem termNet_yes {ts : List Mk} (h : termB ts = true) : termNetN ts = (tmOf ts).thens + 2 ∧ termNetL ts = placeT (tmOf ts) 0 1 2 := by simp [termNetN, termNetL, h]
theorem termNet_no {ts : List Mk} (h : termB ts = false) : termNetN ts = 0 ∧ termNetL ts = [] := by simp [termNetN, termNetL, h]
theorem termNet_len (ts : List Mk) : (termNetL ts).length ≤ 7 := by
  cases h : termB ts
  · simp [termNetL, h]
  · obtain ⟨-, -, h7, -⟩ := term_of h
    rw [(termNet_yes h).2, placeT_len]; exact h7
theorem termNet_free {ts : List Mk} (h : termB ts = true) : freeB (termNetN ts) (termNetL ts) = true := by
  obtain ⟨-, hg, h7, h3⟩ := term_of h
  rw [(termNet_yes h).1, (termNet_yes h).2]; exact net_free _ hg h7 h3
theorem termNet_great {ts : List Mk} (h : termB ts = true) : greatV (termNetN ts) (termNetL ts) 0 1 = carriesN ts ∧ leastR (termNetN ts) (termNetL ts) 0 1 = (carriesN ts, true) := by
  obtain ⟨-, hg, h7, h3⟩ := term_of h
  have h1 := net_free _ hg h7 h3
  have h2 := tnet_ends _ hg h7 h3
  have h4 := net_carry _ hg h7 h3
  rw [(termNet_yes h).1, (termNet_yes h).2]
  have h5 : carriesN ts = (tmOf ts).carry := by simp [carriesN, h]
  refine ⟨by rw [great_cut (by simp [greatB, h1, h2]), h4, h5], ?_⟩
  obtain ⟨h6, h8⟩ := leastR_one h2
  rw [h5, ← h4, ← h6, ← h8]

end Go.Proofs.Ytnefafpfeagflaa
