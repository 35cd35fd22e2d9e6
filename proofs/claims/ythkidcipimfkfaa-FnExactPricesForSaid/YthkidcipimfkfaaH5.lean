/- Contracts of the functions of chapter 6 in the program: PricesFor. -/
import Derived.Test.YthkidcipimfkfaaH3
import Derived.Test.YthkidcipimfkfaaK5
import Derived.Test.YthkidcipimfkfaaF4
import Derived.Test.YthkidcipimfkfaaD0
namespace Go.Proofs.Ythkidcipimfkfaa
open Go.RowKit

theorem ints_off {w w' : World} {b rg : Nat} {v : Value} {xs : List Int} (h : Ints w b v xs) (hg : w.grownBy w' (some rg)) (hne : v.ownBlock ≠ some rg) : Ints w' b v xs :=
  ⟨h.1.kept hg (.inr hne), h.2⟩

/-- a round of settling has changed something -/
def chgB (ps : List Pp) : List Nat → List Int → Bool
  | [], _ => false
  | s :: S, P => decide (P.getD (stFr ps s).toNat 0 + stCo ps s < P.getD (stTo ps s).toNat 0) || chgB ps S (prc1 ps P s)

theorem chg_snoc (ps : List Pp) (S : List Nat) (P : List Int) (k : Nat) (hk : k < S.length) : chgB ps (S.take (k + 1)) P = (chgB ps (S.take k) P || decide ((prcL ps (S.take k) P).getD (stFr ps S[k]).toNat 0 + stCo ps S[k] < (prcL ps (S.take k) P).getD (stTo ps S[k]).toNat 0)) := by
  rw [List.take_succ_eq_append_getElem hk]
  have key : ∀ (F : List Nat) (s : Nat) (P : List Int), chgB ps (F ++ [s]) P = (chgB ps F P || decide ((prcL ps F P).getD (stFr ps s).toNat 0 + stCo ps s < (prcL ps F P).getD (stTo ps s).toNat 0)) := by
    intro F
    induction F with
    | nil => intro s P; simp [chgB, prcL]
    | cons t F ih =>
      intro s P
      rw [List.cons_append, chgB, chgB, ih, Bool.or_assoc]
      rfl
  exact key _ _ _

/-- nothing has changed just if all stays -/
theorem chg_no {n : Nat} {ps : List Pp} {S : List Nat} (hS : insS n ps S) : ∀ {F : List Nat} {P : List Int}, (∀ s ∈ F, s ∈ S) → P.length = n → (chgB ps F P = false ↔ prcL ps F P = P) := by
  intro F
  induction F with
  | nil => intro P _ _; simp [chgB, prcL]
  | cons s F ih =>
    intro P hF hl
    obtain ⟨h1, h2, h3, h4⟩ := hS s (hF s (by simp))
    have hto : (stTo ps s).toNat < P.length := by omega
    have hlow := prcL_low (F := F) (P := prc1 ps P s) hS (fun t ht => hF t (by simp [ht])) (by rw [prc1_len]; exact hl)
    have e : prcL ps (s :: F) P = prcL ps F (prc1 ps P s) := rfl
    rw [chgB, Bool.or_eq_false_iff, decide_eq_false_iff_not, e]
    constructor
    · rintro ⟨g1, g2⟩
      have e1 : prc1 ps P s = P := by
        refine ext_getD (by rw [prc1_len]) fun v _ => ?_
        rw [prc1_get hto]
        split
        · next hv => subst hv; omega
        · rfl
      rw [e1] at g2 ⊢
      exact (ih (fun t ht => hF t (by simp [ht])) hl).1 g2
    · intro h
      have e1 : prc1 ps P s = P := by
        refine ext_getD (by rw [prc1_len]) fun v _ => ?_
        have := hlow.1 v
        rw [h] at this
        have := prc1_le (P := P) hto v
        omega
      refine ⟨fun hlt => ?_, ?_⟩
      · have := prc1_get (P := P) hto (stTo ps s).toNat
        rw [e1, if_pos rfl] at this
        omega
      · rw [e1] at h ⊢
        exact (ih (fun t ht => hF t (by simp [ht])) hl).2 h

/-- prices are bounded: each is the cost of a simple walk, or falls by at most so much a round -/
theorem prcL_bd {n : Nat} {ps : List Pp} {S : List Nat} (hS : insS n ps S) (hc : ∀ p ∈ ps, -9 ≤ p.co ∧ p.co ≤ 9) {m : Int} {F : List Nat} : ∀ {P : List Int}, (∀ s ∈ F, s ∈ S) → P.length = n → (∀ v, -m ≤ P.getD v 0 ∧ P.getD v 0 ≤ m) → 0 ≤ m → ∀ v, -(m + 9 * (F.length : Int)) ≤ (prcL ps F P).getD v 0 ∧ (prcL ps F P).getD v 0 ≤ m := by
  induction F generalizing m with
  | nil => intro P _ _ h _ v; have := h v; simpa [prcL] using this
  | cons s F ih =>
    intro P hF hl h h0 v
    obtain ⟨h1, h2, h3, h4⟩ := hS s (hF s (by simp))
    have hto : (stTo ps s).toNat < P.length := by omega
    have hco := stCo_bd hc h1
    have e : prcL ps (s :: F) P = prcL ps F (prc1 ps P s) := rfl
    have hlow := prcL_low (F := F) (P := prc1 ps P s) hS (fun t ht => hF t (by simp [ht])) (by rw [prc1_len]; exact hl)
    have hnew : ∀ v, -(m + 9) ≤ (prc1 ps P s).getD v 0 ∧ (prc1 ps P s).getD v 0 ≤ m + 9 := by
      intro v
      rw [prc1_get hto]
      have a := h v
      have b := h (stFr ps s).toNat
      split <;> omega
    have := ih (m := m + 9) (P := prc1 ps P s) (fun t ht => hF t (by simp [ht])) (by rw [prc1_len]; exact hl) hnew (by omega) v
    rw [e]
    have h5 := hlow.1 v
    have h6 := prc1_le (P := P) hto v
    have h7 := h v
    simp only [List.length_cons]
    push_cast
    omega

theorem prcN_bd {n : Nat} {ps : List Pp} {S : List Nat} (hS : insS n ps S) (hc : ∀ p ∈ ps, -9 ≤ p.co ∧ p.co ≤ 9) (r : Nat) : ∀ v, -(126 * (r : Int)) ≤ (prcN ps S n r).getD v 0 ∧ (prcN ps S n r).getD v 0 ≤ 0 ∨ 14 < S.length := by
  induction r with
  | zero =>
    intro v
    left
    simp only [prcN, List.getD_eq_getElem?_getD]
    rw [List.getElem?_replicate]
    split <;> simp
  | succ r ih =>
    intro v
    by_cases hl : 14 < S.length
    · exact .inr hl
    · left
      have h0 : ∀ v, -(126 * (r : Int)) ≤ (prcN ps S n r).getD v 0 ∧ (prcN ps S n r).getD v 0 ≤ 0 := fun v => (ih v).resolve_right hl
      have h1 := prcL_bd (F := S) (m := 126 * (r : Int)) hS hc (P := prcN ps S n r) (fun _ h => h) (prcN_len _ _ _ _) (fun v => by have := h0 v; omega) (by omega) v
      have h2 := (prcL_low (P := prcN ps S n r) hS (fun _ h => h) (prcN_len _ _ _ _)).1 v
      have h3 := h0 v
      rw [prcN]
      push_cast
      omega

theorem stL_len (ps : List Pp) (xs : List Int) : (stL ps xs).length ≤ 2 * ps.length := by
  unfold stL
  have := List.length_filter_le (openF ps xs) (List.range (2 * ps.length))
  simpa using this

theorem pipes_off {w w' : World} {b rg : Nat} {v : Value} {ps : List Pp} (h : Pipes w b v ps) (hg : w.grownBy w' (some rg)) (hne : v.ownBlock ≠ some rg) : Pipes w' b v ps :=
  ⟨h.1.kept hg (.inr hne), h.2⟩

theorem set_same (P : List Int) (e : Nat) : P.set e (P.getD e 0) = P := by
  by_cases h : e < P.length
  · rw [List.getD_eq_getElem?_getD, List.getElem?_eq_getElem h, Option.getD_some, List.set_getElem_self]
  · rw [List.set_eq_of_length_le (by omega)]

set_option maxHeartbeats 4000000 in
set_option maxRecDepth 20000 in
theorem settle_any (bs bn bp gl N cap B : Nat) (v us : Value) (ps : List Pp) (S : List Nat) (P : List Int) (b bS : Nat) (w : World) (hp : Pipes w b v ps) (hs : Ints w bS us (ofS S)) (hR : Row w B gl N cap P) (hS : insS N ps S) (hl7 : ps.length ≤ 7) (hc : ∀ p ∈ ps, -9 ≤ p.co ∧ p.co ≤ 9) (h14 : S.length ≤ 14)
    (hbd : ∀ v, -1000 ≤ P.getD v 0 ∧ P.getD v 0 ≤ 1000) (o1 : us.ownBlock ≠ some gl) (o2 : v.ownBlock ≠ some gl)
    (d0 : w.cell? ⟨bs, 0, none⟩ = some us) (d1 : w.cell? ⟨bn, 1, none⟩ = some v) (d2 : w.cell? ⟨bp, 0, none⟩ = some (.slice (some ⟨gl, 0, none⟩) N cap))
    (l0 : bs < w.heap.size) (l1 : bn < w.heap.size) (l2 : bp < w.heap.size) (n0 : bs ≠ gl) (n1 : bn ≠ gl) (n2 : bp ≠ gl) :
    Calls Try.prog 83 #[.pointer (some ⟨bs, 0, none⟩), .pointer (some ⟨bn, 0, none⟩), .pointer (some ⟨bp, 0, none⟩)] w fun e w' => e = .returned (.bool (chgB ps S P)) ∧ Row w' B gl N cap (prcL ps S P) ∧ w.grownBy w' (some gl) := by
  have hp0 := hp
  have hs0 := hs
  obtain ⟨A, c, rfl, hcp1, hcp2, -, -⟩ := hp.form
  obtain ⟨A1, c1, rfl, hc1, hc2, hsm, -⟩ := hs.form
  unfold maxLen at hc2 hcp2
  have hlS : (ofS S).length = S.length := by simp
  rw [hlS] at hs0 hc1 hsm d0
  have hcap := hR.capd
  unfold maxLen at hcap
  have hPl := hR.len
  have HH := Lib.hid (And.intro hc (And.intro hbd (And.intro hS hlS)))
  have HR0 := Lib.hid hR
  have hgl := hR.lt
  have hoff1 : (Value.slice A1 S.length c1).ownBlock ≠ some gl := by
    intro h; apply o1; cases A1 <;> exact h
  have hoff := Lib.hid (And.intro hoff1 o2)
  clear hc hbd hS hlS hs hp hR o1 o2 hoff1
  go_enter Try.func83, Try.ntmps83
  go_wp2_with fail
  go_loopw [11, 3] (fun i t wr => ∃ k : Nat, k ≤ S.length ∧ i = .int .i64 k ∧ t = .bool (chgB ps (S.take k) P) ∧ Row wr B gl N cap (prcL ps (S.take k) P) ∧ w.grownBy wr (some gl)) (fun i _ _ => S.length - (intOf i).toNat)
  case atStart => exact ⟨0, by omega, rfl, rfl, HR0.out, grow_refl _ _⟩
  case round =>
    obtain ⟨k, hk, rfl, rfl, hR, hg⟩ := hrel
    have hzr := hg.size
    obtain ⟨hcg, -⟩ := gcell hg
    have e0 := (hcg bs 0 l0 n0).trans d0
    have e1 := (hcg bn 1 l1 n1).trans d1
    have e2 := (hcg bp 0 l2 n2).trans d2
    by_cases hlt : k < S.length
    · have hsr : Ints wr bS (.slice A1 S.length c1) (ofS S) := ints_off hs0 hg hoff.out.1
      have hpr : Pipes wr b (.slice A ps.length c) ps := pipes_off hp0 hg hoff.out.2
      obtain ⟨Ax, cx, ex, -, -, -, hcell⟩ := hsr.form
      injection ex with ex1 ex2 ex3
      subst ex1
      obtain ⟨g, rfl, hg1, hg2, cw, -⟩ := hcell wr (Below.refl _ _) k (by rw [HH.out.2.2.2]; exact hlt)
      have cw' : wr.cell? ⟨g, k, none⟩ = some (.int .i64 (S[k] : Nat)) := by rw [cw]; simp
      obtain ⟨s1, ⟨f0, f1⟩, ⟨t0, t1⟩, hne⟩ := HH.out.2.2.1 S[k] (List.getElem_mem hlt)
      have hco := stCo_bd HH.out.1 s1
      have Hc := Lib.hid (chg_snoc ps S P k hlt)
      have Hs := Lib.hid (prcL_snoc ps S P k hlt)
      have hpb := prcL_bd (F := S.take k) (m := 1000) HH.out.2.2.1 HH.out.1 (P := P) (fun s hs => List.mem_of_mem_take hs) hPl HH.out.2.1 (by omega)
      have hk14 : (S.take k).length ≤ 14 := by rw [List.length_take]; omega
      obtain ⟨x0, hx0⟩ : ∃ x0, chgB ps (S.take k) P = x0 := ⟨_, rfl⟩
      rw [hx0] at Hc ⊢
      generalize hQ : prcL ps (S.take k) P = Q at *
      generalize S[k] = s at *
      obtain ⟨a, ha⟩ : ∃ a : Nat, stFr ps s = (a : Int) := ⟨(stFr ps s).toNat, by omega⟩
      obtain ⟨e, he⟩ : ∃ e : Nat, stTo ps s = (e : Int) := ⟨(stTo ps s).toNat, by omega⟩
      rw [ha] at f0 f1
      rw [he] at t0 t1
      have haN : a < N := by omega
      have heN : e < N := by omega
      obtain ⟨pa, hpa⟩ : ∃ x, Q.getD a 0 = x := ⟨_, rfl⟩
      obtain ⟨pe, hpe⟩ : ∃ x, Q.getD e 0 = x := ⟨_, rfl⟩
      have ba := hpb a
      have be := hpb e
      rw [hpa] at ba
      rw [hpe] at be
      obtain ⟨co, hcoe⟩ : ∃ co, stCo ps s = co := ⟨_, rfl⟩
      rw [hcoe] at hco
      have Hc2 : Hid (chgB ps (S.take (k + 1)) P = (x0 || decide (pa + co < pe))) := Lib.hid (by
        rw [Hc.out, ha, he, Int.toNat_natCast, Int.toNat_natCast, hpa, hpe, hcoe])
      have Hs2 : Hid (prcL ps (S.take (k + 1)) P = Q.set e (min pe (pa + co))) := Lib.hid (by
        rw [Hs.out]
        show Q.set (stTo ps s).toNat (min (Q.getD (stTo ps s).toNat 0) (Q.getD (stFr ps s).toNat 0 + stCo ps s)) = _
        rw [ha, he, Int.toNat_natCast, Int.toNat_natCast, hpa, hpe, hcoe])
      have HQe : Hid (Q.set e pe = Q) := Lib.hid (by rw [← hpe]; exact set_same Q e)
      have ba1 : -2000 ≤ pa ∧ pa ≤ 2000 := by omega
      have be1 : -2000 ≤ pe ∧ pe ≤ 2000 := by omega
      have HE := Lib.hid (And.intro ha (And.intro he hcoe))
      clear cw hpb ba be Hc Hs hQ hx0 hne f0 f1 t0 t1 hcell ex2 ex3
      obtain ⟨ba2, ba3⟩ := ba1
      obtain ⟨be2, be3⟩ := be1
      obtain ⟨hco1, hco2⟩ := hco
      go_wp2_with fail
      with_reducible refine (stepEnds_any s _ ps b _ hpr s1 hl7).mono ?_
      rintro ee w2 ⟨rfl, hb2⟩
      rw [HE.out.1, HE.out.2.1]
      have hR2 := hR.keep hb2
      have hp2 := hpr.keep hb2
      have hg2 := grow_below hg hb2
      have hz2 := hg2.size
      obtain ⟨y0, -⟩ := hR2.at' a haN
      obtain ⟨z0, z1⟩ := hR2.at' e heN
      rw [hpa] at y0
      rw [hpe] at z0
      obtain ⟨hcg2, -⟩ := gcell hg2
      have r1 := (hcg2 bn 1 l1 n1).trans d1
      have r2 := (hcg2 bp 0 l2 n2).trans d2
      have hglr := hR2.lt
      have hd0 := fun p : Bw w2 => (bw_cell p (show bn < w2.heap.size by omega)).trans r1
      have hd1 := fun p : Bw w2 => (bw_cell p (show bp < w2.heap.size by omega)).trans r2
      have hd2 := fun p : Bw w2 => (bw_cell p (show gl < w2.heap.size by omega)).trans y0
      have Hcost : Hid (∀ p : Bw w2, Calls Try.prog 85 #[.slice A ps.length c, .int .i64 s] p.v fun e w' => e = .returned (.int .i64 co) ∧ Below p.v.heap.size p.v w') :=
        Lib.hid fun p => (stepCost_any s _ ps b _ (hp2.keep p.h) s1 hl7 HH.out.1).mono fun e w' h => ⟨by rw [h.1, HE.out.2.2], h.2⟩
      clear hR hpr e0 e1 e2 hcg cw' hg hb2 hsr
      go_wp2_with fail
      refine wp_region_bw (by kernel_rfl) (by kernel_rfl) ?_
      repeat (go_big_quiet_step ((go_at_call 85; refine calls_bw (Hcost.out _))))
      refine wpQuiet_nil ?_
      rintro _ ⟨pw, rfl⟩
      have hR3 := hR2.keep pw.h
      have hg3 := grow_below hg2 pw.h
      obtain ⟨wq, hwq⟩ : ∃ wq, wq = pw.v := ⟨_, rfl⟩
      rw [← hwq] at hR3 hg3 ⊢
      clear hd0 hd1 hd2 hwq y0 z0 z1 r1 r2 hcg2 hR2 hg2 hglr
      obtain ⟨z0, z1⟩ := hR3.at' e heN
      rw [hpe] at z0
      obtain ⟨hcg3, -⟩ := gcell hg3
      have r2 := (hcg3 bp 0 l2 n2).trans d2
      have hglr := hR3.lt
      by_cases hless : pa + co < pe
      · have hld : decide (pa + co < pe) = true := decide_eq_true hless
        have HN : Hid (prcL ps (S.take (k + 1)) P = Q.set e (pa + co)) := Lib.hid (by rw [Hs2.out, Int.min_eq_right (by omega)])
        have HC : Hid (chgB ps (S.take (k + 1)) P = true) := Lib.hid (by rw [Hc2.out, hld, Bool.or_true])
        have HR4 := Lib.hid (hR3.set e (pa + co))
        have hg4 : w.grownBy (wq.setCell ⟨gl, e, none⟩ (.int .i64 (pa + co))) (some gl) := grow_set hg3 (.inr rfl) _
        clear hless hR3
        go_wp2
        go_roundw
        case rel => exact ⟨k + 1, by omega, by go_num, by rw [HC.out], by rw [HN.out]; exact HR4.out, hg4⟩
        case measure => simp [intOf]; omega
      · have hld : decide (pa + co < pe) = false := decide_eq_false hless
        have HN : Hid (prcL ps (S.take (k + 1)) P = Q) := Lib.hid (by rw [Hs2.out, Int.min_eq_left (by omega), HQe.out])
        have HC : Hid (chgB ps (S.take (k + 1)) P = x0) := Lib.hid (by rw [Hc2.out, hld, Bool.or_false])
        clear hless
        go_wp2
        go_roundw
        case rel => exact ⟨k + 1, by omega, by go_num, by rw [HC.out], by rw [HN.out]; exact hR3, hg3⟩
        case measure => simp [intOf]; omega
    · have hkk : k = S.length := by omega
      subst hkk
      rw [List.take_length] at hR ⊢
      go_wp2
      go_ret
      exact ⟨rfl, hR, hg⟩

/-- what is known while prices and steps are made and laid into their variables -/
structure PSt (W : World) (N : Nat) (S : List Int) (a2 a6 a7 a8 a9 a10 : Value) (w : World) : Prop where
  b : Below W.heap.size W w
  r2 : a2 = undef ∨ ∃ g, a2 = .slice (some ⟨g, 0, none⟩) N N ∧ Row w W.heap.size g N N (List.replicate N 0)
  r6 : a6 = undef ∨ Ints w W.heap.size a6 S
  r7 : a7 = undef ∨ ∃ g x, a7 = .pointer (some ⟨g, 0, none⟩) ∧ W.heap.size ≤ g ∧ g < w.heap.size ∧ w.cell? ⟨g, 0, none⟩ = some x ∧ w.frozen? ⟨g, 0, none⟩ = false
  r8 : a8 = undef ∨ ∃ g x, a8 = .pointer (some ⟨g, 0, none⟩) ∧ W.heap.size ≤ g ∧ g < w.heap.size ∧ w.cell? ⟨g, 0, none⟩ = some x ∧ w.frozen? ⟨g, 0, none⟩ = false
  ap : apartU [2, 6, 7, 8] (fun k => if k = 2 then a2 else if k = 6 then a6 else if k = 7 then a7 else a8) w
  s9 : a9 = .bool true → ∃ g, a7 = .pointer (some ⟨g, 0, none⟩) ∧ w.cell? ⟨g, 0, none⟩ = some a2 ∧ a2 ≠ undef
  s10 : a10 = .bool true → ∃ g, a8 = .pointer (some ⟨g, 0, none⟩) ∧ w.cell? ⟨g, 0, none⟩ = some a6 ∧ a6 ≠ undef

section
variable {W w w' : World} {N : Nat} {S : List Int} {a2 a6 a7 a8 a9 a10 : Value}
theorem frozen_keep {o : Nat} {g : Nat} (hb : Below w.heap.size w w') (hg : g < w.heap.size) (h : w.frozen? ⟨g, o, none⟩ = false) : w'.frozen? ⟨g, o, none⟩ = false := (hb.frozen (p := ⟨g, o, none⟩) hg).trans h
theorem apart_more {S : List Nat} {u : Nat → Value} (h : apartU S u w) (hs : w.heap.size ≤ w'.heap.size) : apartU S u w' := ⟨fun i hi a ha => Nat.lt_of_lt_of_le (h.1 i hi a ha) hs, h.2⟩
theorem PSt.keep (h : PSt W N S a2 a6 a7 a8 a9 a10 w) (hb : Below w.heap.size w w') : PSt W N S a2 a6 a7 a8 a9 a10 w' where
  b := h.b.trans (hb.mono h.b.size)
  r2 := by rcases h.r2 with h | ⟨g, h1, h2⟩
           · exact .inl h
           · exact .inr ⟨g, h1, h2.keep hb⟩
  r6 := by rcases h.r6 with h | h
           · exact .inl h
           · exact .inr (h.keep hb)
  r7 := by rcases h.r7 with h | ⟨g, x, h1, h2, h3, h4, h5⟩
           · exact .inl h
           · exact .inr ⟨g, x, h1, h2, by have := hb.size; omega, (bel_cell hb h3).trans h4, frozen_keep hb h3 h5⟩
  r8 := by rcases h.r8 with h | ⟨g, x, h1, h2, h3, h4, h5⟩
           · exact .inl h
           · exact .inr ⟨g, x, h1, h2, by have := hb.size; omega, (bel_cell hb h3).trans h4, frozen_keep hb h3 h5⟩
  ap := apart_more h.ap hb.size
  s9 := fun e => by
    obtain ⟨g, h1, h2, h3⟩ := h.s9 e
    refine ⟨g, h1, (bel_cell hb ?_).trans h2, h3⟩
    rcases h.r7 with h7 | ⟨g', x, h1', h2', h3', -⟩
    · rw [h7] at h1; cases h1
    · rw [h1'] at h1; injection h1 with h1; injection h1 with h1; injection h1 with h1; omega
  s10 := fun e => by
    obtain ⟨g, h1, h2, h3⟩ := h.s10 e
    refine ⟨g, h1, (bel_cell hb ?_).trans h2, h3⟩
    rcases h.r8 with h7 | ⟨g', x, h1', h2', h3', -⟩
    · rw [h7] at h1; cases h1
    · rw [h1'] at h1; injection h1 with h1; injection h1 with h1; injection h1 with h1; omega

theorem ap_at (h : PSt W N S a2 a6 a7 a8 a9 a10 w) : (∀ a, blkOf a2 = some a → a < w.heap.size) ∧ (∀ a, blkOf a6 = some a → a < w.heap.size) ∧ (∀ a, blkOf a7 = some a → a < w.heap.size) ∧ (∀ a, blkOf a8 = some a → a < w.heap.size) ∧
    (∀ a b, blkOf a2 = some a → blkOf a6 = some b → a ≠ b) ∧ (∀ a b, blkOf a2 = some a → blkOf a7 = some b → a ≠ b) ∧ (∀ a b, blkOf a2 = some a → blkOf a8 = some b → a ≠ b) ∧
    (∀ a b, blkOf a6 = some a → blkOf a7 = some b → a ≠ b) ∧ (∀ a b, blkOf a6 = some a → blkOf a8 = some b → a ≠ b) ∧ (∀ a b, blkOf a7 = some a → blkOf a8 = some b → a ≠ b) := by
  obtain ⟨h1, h2⟩ := h.ap
  refine ⟨fun a ha => h1 2 (by simp) a (by simpa using ha), fun a ha => h1 6 (by simp) a (by simpa using ha), fun a ha => h1 7 (by simp) a (by simpa using ha), fun a ha => h1 8 (by simp) a (by simpa using ha),
    fun a b ha hb => h2 2 (by simp) 6 (by simp) (by simp) a b (by simpa using ha) (by simpa using hb), fun a b ha hb => h2 2 (by simp) 7 (by simp) (by simp) a b (by simpa using ha) (by simpa using hb),
    fun a b ha hb => h2 2 (by simp) 8 (by simp) (by simp) a b (by simpa using ha) (by simpa using hb), fun a b ha hb => h2 6 (by simp) 7 (by simp) (by simp) a b (by simpa using ha) (by simpa using hb),
    fun a b ha hb => h2 6 (by simp) 8 (by simp) (by simp) a b (by simpa using ha) (by simpa using hb), fun a b ha hb => h2 7 (by simp) 8 (by simp) (by simp) a b (by simpa using ha) (by simpa using hb)⟩

theorem ap_mk (h : (∀ a, blkOf a2 = some a → a < w.heap.size) ∧ (∀ a, blkOf a6 = some a → a < w.heap.size) ∧ (∀ a, blkOf a7 = some a → a < w.heap.size) ∧ (∀ a, blkOf a8 = some a → a < w.heap.size) ∧
    (∀ a b, blkOf a2 = some a → blkOf a6 = some b → a ≠ b) ∧ (∀ a b, blkOf a2 = some a → blkOf a7 = some b → a ≠ b) ∧ (∀ a b, blkOf a2 = some a → blkOf a8 = some b → a ≠ b) ∧
    (∀ a b, blkOf a6 = some a → blkOf a7 = some b → a ≠ b) ∧ (∀ a b, blkOf a6 = some a → blkOf a8 = some b → a ≠ b) ∧ (∀ a b, blkOf a7 = some a → blkOf a8 = some b → a ≠ b)) :
    apartU [2, 6, 7, 8] (fun k => if k = 2 then a2 else if k = 6 then a6 else if k = 7 then a7 else a8) w := by
  obtain ⟨h1, h2, h3, h4, h5, h6, h7, h8, h9, h10⟩ := h
  refine ⟨?_, ?_⟩
  · intro i hi a ha
    simp only [List.mem_cons, List.not_mem_nil, or_false] at hi
    rcases hi with rfl | rfl | rfl | rfl
    · exact h1 a (by simpa using ha)
    · exact h2 a (by simpa using ha)
    · exact h3 a (by simpa using ha)
    · exact h4 a (by simpa using ha)
  · intro i hi j hj hij a b ha hb
    simp only [List.mem_cons, List.not_mem_nil, or_false] at hi hj
    rcases hi with rfl | rfl | rfl | rfl <;> rcases hj with rfl | rfl | rfl | rfl <;> first | (exact absurd rfl hij) | skip
    · exact h5 a b (by simpa using ha) (by simpa using hb)
    · exact h6 a b (by simpa using ha) (by simpa using hb)
    · exact h7 a b (by simpa using ha) (by simpa using hb)
    · exact (h5 b a (by simpa using hb) (by simpa using ha)).symm
    · exact h8 a b (by simpa using ha) (by simpa using hb)
    · exact h9 a b (by simpa using ha) (by simpa using hb)
    · exact (h6 b a (by simpa using hb) (by simpa using ha)).symm
    · exact (h8 b a (by simpa using hb) (by simpa using ha)).symm
    · exact h10 a b (by simpa using ha) (by simpa using hb)
    · exact (h7 b a (by simpa using hb) (by simpa using ha)).symm
    · exact (h9 b a (by simpa using hb) (by simpa using ha)).symm
    · exact (h10 b a (by simpa using hb) (by simpa using ha)).symm

theorem PSt.set7 (h : PSt W N S a2 a6 a7 a8 a9 a10 w) {g : Nat} (e7 : a7 = .pointer (some ⟨g, 0, none⟩)) (h2 : a2 ≠ undef) : PSt W N S a2 a6 a7 a8 (.bool true) a10 (w.setCell ⟨g, 0, none⟩ a2) := by
  obtain ⟨p1, p2, p3, p4, p5, p6, p7, p8, p9, p10⟩ := ap_at h
  have b7 : blkOf a7 = some g := by rw [e7]; rfl
  obtain ⟨x, hgW, hgw, hx, hfz⟩ : ∃ x, W.heap.size ≤ g ∧ g < w.heap.size ∧ w.cell? ⟨g, 0, none⟩ = some x ∧ w.frozen? ⟨g, 0, none⟩ = false := by
    rcases h.r7 with h7 | ⟨g', x, q1, q2, q3, q4, q5⟩
    · rw [h7] at e7; cases e7
    · rw [q1] at e7; injection e7 with e7; injection e7 with e7; injection e7 with e7; subst e7; exact ⟨x, q2, q3, q4, q5⟩
  refine ⟨h.b.setCell hgW _, ?_, ?_, ?_, ?_, apart_more h.ap (by simp), ?_, ?_⟩
  · rcases h.r2 with q | ⟨g2, q1, q2⟩
    · exact .inl q
    · exact .inr ⟨g2, q1, q2.far (by simp; intro e; exact p6 g2 g (by rw [q1]; rfl) b7 e.symm) _⟩
  · rcases h.r6 with q | q
    · exact .inl q
    · refine .inr ?_
      refine ints_off q (grow_set (grow_refl w (some g)) (.inr rfl) a2) ?_
      intro hb
      refine p8 g g ?_ b7 rfl
      obtain ⟨A, c, hv, -⟩ := q.form
      rw [hv] at hb ⊢
      cases A with
      | none => cases hb
      | some A => exact hb
  · exact .inr ⟨g, a2, e7, hgW, by simpa using hgw, World.cell?_setCell_same _ _ _ (by rw [hx]), by simpa using hfz⟩
  · rcases h.r8 with q | ⟨g8, x8, q1, q2, q3, q4, q5⟩
    · exact .inl q
    · have hne : g ≠ g8 := p10 g g8 b7 (by rw [q1]; rfl)
      exact .inr ⟨g8, x8, q1, q2, by simpa using q3, (World.cell?_setCell_other _ _ _ _ (by intro e; injection e with e; exact hne e)).trans q4, by simpa using q5⟩
  · intro _
    exact ⟨g, e7, World.cell?_setCell_same _ _ _ (by rw [hx]), h2⟩
  · intro e
    obtain ⟨g8, q1, q2, q3⟩ := h.s10 e
    have hne : g ≠ g8 := p10 g g8 b7 (by rw [q1]; rfl)
    exact ⟨g8, q1, (World.cell?_setCell_other _ _ _ _ (by intro e; injection e with e; exact hne e)).trans q2, q3⟩
theorem PSt.set8 (h : PSt W N S a2 a6 a7 a8 a9 a10 w) {g : Nat} (e8 : a8 = .pointer (some ⟨g, 0, none⟩)) (h6 : a6 ≠ undef) : PSt W N S a2 a6 a7 a8 a9 (.bool true) (w.setCell ⟨g, 0, none⟩ a6) := by
  obtain ⟨p1, p2, p3, p4, p5, p6, p7, p8, p9, p10⟩ := ap_at h
  have b8 : blkOf a8 = some g := by rw [e8]; rfl
  obtain ⟨x, hgW, hgw, hx, hfz⟩ : ∃ x, W.heap.size ≤ g ∧ g < w.heap.size ∧ w.cell? ⟨g, 0, none⟩ = some x ∧ w.frozen? ⟨g, 0, none⟩ = false := by
    rcases h.r8 with h8 | ⟨g', x, q1, q2, q3, q4, q5⟩
    · rw [h8] at e8; cases e8
    · rw [q1] at e8; injection e8 with e8; injection e8 with e8; injection e8 with e8; subst e8; exact ⟨x, q2, q3, q4, q5⟩
  refine ⟨h.b.setCell hgW _, ?_, ?_, ?_, ?_, apart_more h.ap (by simp), ?_, ?_⟩
  · rcases h.r2 with q | ⟨g2, q1, q2⟩
    · exact .inl q
    · exact .inr ⟨g2, q1, q2.far (by simp; intro e; exact p7 g2 g (by rw [q1]; rfl) b8 e.symm) _⟩
  · rcases h.r6 with q | q
    · exact .inl q
    · refine .inr ?_
      refine ints_off q (grow_set (grow_refl w (some g)) (.inr rfl) a6) ?_
      intro hb
      refine p9 g g ?_ b8 rfl
      obtain ⟨A, c, hv, -⟩ := q.form
      rw [hv] at hb ⊢
      cases A with
      | none => cases hb
      | some A => exact hb
  · rcases h.r7 with q | ⟨g7, x7, q1, q2, q3, q4, q5⟩
    · exact .inl q
    · have hne : g ≠ g7 := fun e => p10 g7 g (by rw [q1]; rfl) b8 e.symm
      exact .inr ⟨g7, x7, q1, q2, by simpa using q3, (World.cell?_setCell_other _ _ _ _ (by intro e; injection e with e; exact hne e)).trans q4, by simpa using q5⟩
  · exact .inr ⟨g, a6, e8, hgW, by simpa using hgw, World.cell?_setCell_same _ _ _ (by rw [hx]), by simpa using hfz⟩
  · intro e
    obtain ⟨g7, q1, q2, q3⟩ := h.s9 e
    have hne : g ≠ g7 := fun e => p10 g7 g (by rw [q1]; rfl) b8 e.symm
    exact ⟨g7, q1, (World.cell?_setCell_other _ _ _ _ (by intro e; injection e with e; exact hne e)).trans q2, q3⟩
  · intro _
    exact ⟨g, e8, World.cell?_setCell_same _ _ _ (by rw [hx]), h6⟩
end

theorem PSt.start {W w : World} (N : Nat) (S : List Int) (h : Below W.heap.size W w) : PSt W N S undef undef undef undef undef undef w := by
  have hb : ∀ a, blkOf undef = some a → False := fun a h => by
    have h' : (none : Option Nat) = some a := h
    cases h'
  refine ⟨h, .inl rfl, .inl rfl, .inl rfl, .inl rfl, ap_mk ⟨fun a h => (hb a h).elim, fun a h => (hb a h).elim, fun a h => (hb a h).elim, fun a h => (hb a h).elim, fun a _ h _ => (hb a h).elim, fun a _ h _ => (hb a h).elim, fun a _ h _ => (hb a h).elim, fun a _ h _ => (hb a h).elim, fun a _ h _ => (hb a h).elim, fun a _ h _ => (hb a h).elim⟩, fun h => ?_, fun h => ?_⟩
  · cases h
  · cases h

/-- what the operations ahead of the rounds yield -/
def pfV (B0 N : Nat) (v u : Value) : Nat → Value → Prop
  | 0, x => x = .pointer (some ⟨B0, 0, none⟩)
  | 1, x => x = .int .i64 N
  | 2, x => ∃ g, x = .slice (some ⟨g, 0, none⟩) N N
  | 3, x => x = .pointer (some ⟨B0, 1, none⟩)
  | 4, x => x = v
  | 5, x => x = u
  | 6, x => x ≠ undef
  | 7, x => ∃ g, x = .pointer (some ⟨g, 0, none⟩)
  | 8, x => ∃ g, x = .pointer (some ⟨g, 0, none⟩)
  | 9, x => x = .bool true
  | 10, x => x = .bool true
  | _, _ => True

theorem blk_fresh {w' : World} {b : Nat} {v : Value} {xs : List Int} (h : Ints w' b v xs) : ∀ a, blkOf v = some a → b ≤ a ∧ a < w'.heap.size := by
  intro a ha
  obtain ⟨A, c, hv, -⟩ := h.form
  cases A with
  | none => rw [hv] at ha; cases ha
  | some A =>
    refine h.1.lt a ?_
    rw [hv] at ha ⊢
    exact ha

set_option maxHeartbeats 4000000 in
set_option maxRecDepth 20000 in
theorem pricesFor_any (n : Int) (v u : Value) (ps : List Pp) (xs : List Int) (b b' : Nat) (w : World) (hp : Pipes w b v ps) (hx : Ints w b' u xs) :
    Calls Try.prog 43 #[.agg #[.int .i64 n, v], u] w fun e w' => ∃ r, e = .returned (.tuple #[r, .bool (pricedB n ps xs)]) ∧ Ints w' w.heap.size r (priceR n ps xs) ∧ Below w.heap.size w w' := by
  have hp0 := hp
  have hx0 := hx
  obtain ⟨A, c, rfl, -, -, -, -⟩ := hp.form
  obtain ⟨A', c', rfl, -, -, -, -⟩ := hx.form
  have bx0 := Box2.new w (.int .i64 n) (.slice A ps.length c) 31
  go_enter Try.func43, Try.ntmps43
  go_wp2_with fail
  with_reducible refine (holdsOk_any n _ _ ps xs b b' _ (hp0.keep (by (repeat (first | (with_reducible assumption) | (with_reducible exact Below.refl _ _) | ((with_reducible refine Below.alloc ?_ ?hsz _); (case hsz => (first | omega | (simp; done) | (simp; omega) | (simp at *; omega)))) | ((with_reducible refine Below.setCell ?_ ?hsz _); (case hsz => (first | omega | (simp; done) | (simp; omega) | (simp at *; omega)))) | (with_reducible refine Below.drew ?_) | (with_reducible refine below_drewN ?_ _) | ((with_reducible refine Below.trans ?_ (Below.mono (by with_reducible assumption) ?hsz)); (case hsz => (first | omega | (simp; done) | (simp; omega) | (simp at *; omega)))))))) (hx0.keep (by (repeat (first | (with_reducible assumption) | (with_reducible exact Below.refl _ _) | ((with_reducible refine Below.alloc ?_ ?hsz _); (case hsz => (first | omega | (simp; done) | (simp; omega) | (simp at *; omega)))) | ((with_reducible refine Below.setCell ?_ ?hsz _); (case hsz => (first | omega | (simp; done) | (simp; omega) | (simp at *; omega)))) | (with_reducible refine Below.drew ?_) | (with_reducible refine below_drewN ?_ _) | ((with_reducible refine Below.trans ?_ (Below.mono (by with_reducible assumption) ?hsz)); (case hsz => (first | omega | (simp; done) | (simp; omega) | (simp at *; omega))))))))).mono ?_
  rintro e w1 ⟨rfl, hb1⟩
  have bx1 := bx0.keep hb1
  have hB1 : Below w.heap.size w w1 := by (repeat (first | (with_reducible assumption) | (with_reducible exact Below.refl _ _) | ((with_reducible refine Below.alloc ?_ ?hsz _); (case hsz => (first | omega | (simp; done) | (simp; omega) | (simp at *; omega)))) | ((with_reducible refine Below.setCell ?_ ?hsz _); (case hsz => (first | omega | (simp; done) | (simp; omega) | (simp at *; omega)))) | (with_reducible refine Below.drew ?_) | (with_reducible refine below_drewN ?_ _) | ((with_reducible refine Below.trans ?_ (Below.mono (by with_reducible assumption) ?hsz)); (case hsz => (first | omega | (simp; done) | (simp; omega) | (simp at *; omega))))))
  have hz1 := hB1.size
  clear bx0 hb1
  obtain ⟨bs, d0, d1, -, -⟩ := id bx1
  have hlt1 := bs
  by_cases hh : holdsB n ps xs = true
  · rw [hh]
    have hn := holds_net hh
    obtain ⟨n2, n5, hl7, -⟩ := netOk_parts hn
    obtain ⟨hf, -, hlen⟩ := holds_parts hh
    have HN := Lib.hid (And.intro hn (And.intro hlen (And.intro (flowOk_parts hf).2.2 (And.intro (net_rooms hn) hh))))
    have hins := stL_ins hn xs
    obtain ⟨N, rfl⟩ := Int.eq_ofNat_of_zero_le (show 0 ≤ n by omega)
    rw [Int.toNat_natCast] at hins
    have HI := Lib.hid hins
    have hN5 : N ≤ 5 := by omega
    have hN2 : 2 ≤ N := by omega
    have hmk := fun W => run_make_ints (n := N) (by omega) W
    clear hn hf hlen hh hins
    go_wp2_with fail
    refine wp_region_flowG 11 none [(0, 13), (1, 14), (2, 15), (3, 16), (4, 17), (5, 18), (6, 19), (7, 6), (8, 7)] (fun j x _ _ => pfV w.heap.size N (.slice A ps.length c) (.slice A' xs.length c') j x) (fun _ _ _ => True) (fun _ a wx => PSt w1 N (openL ps xs) (a 2) (a 6) (a 7) (a 8) (a 9) (a 10) wx) (by kernel_rfl) (by kernel_rfl) rfl
      (PSt.start N _ ⟨rfl, rfl, rfl, Nat.le_refl _, fun _ _ => rfl⟩) ?_ ?_ ?_ ?_
    · exact fun _ _ _ _ _ _ _ _ _ _ h => h
    · exact fun _ _ _ _ _ _ _ h => h
    · simp only [eachOp, fillF, List.setIfInBounds_toArray, List.set_cons_succ, List.set_cons_zero]
      refine ⟨?_, ?_, ?_, ?_, ?_, ?_, ?_, ?_, ?_, ?_, ?_, trivial⟩ <;> intro u uu f wx hC hun hl hd <;> (try simp [allV, useOf, Region.binds] at hd) <;> intro _
      · go_wp2
        exact ⟨_, rfl, rfl, trivial, hC⟩
      · rw [show u 0 = _ from hd]
        have e0 := (bel_cell hC.b bs).trans d0
        go_wp2
        exact ⟨_, rfl, rfl, trivial, hC⟩
      · rw [show u 1 = _ from hd]
        have hK := hC.keep ((Below.refl wx.heap.size wx).alloc (Nat.le_refl _) (.cells (madeCells #[.int .i64 0] N) 3))
        have hmade := Ints_made wx (n := N) (b := w1.heap.size) (g := wx.heap.size) hC.b.size (by omega) rfl
        obtain ⟨p1, p2, p3, p4, p5, p6, p7, p8, p9, p10⟩ := ap_at hC
        obtain ⟨q1, q2, q3, q4, q5, q6, q7, q8, q9, q10⟩ := ap_at hK
        obtain ⟨gl, cl, hv, hR⟩ := hmade.row (by simp; omega)
        rw [List.length_replicate] at hv hR
        injection hv with hv1 hv2 hv3
        injection hv1 with hv1
        injection hv1 with hv1
        subst hv1
        subst hv3
        have hnew : PSt w1 N (openL ps xs) (.slice (some ⟨wx.heap.size, 0, none⟩) N N) (uu 6) (uu 7) (uu 8) (uu 9) (uu 10) (wx.alloc (.cells (madeCells #[.int .i64 0] N) 3)) := by
          refine ⟨hK.b, .inr ⟨_, rfl, hR⟩, hK.r6, hK.r7, hK.r8, ap_mk ⟨?_, q2, q3, q4, ?_, ?_, ?_, q8, q9, q10⟩, ?_, hK.s10⟩
          · intro a ha
            have : wx.heap.size = a := by injection ha
            simp; omega
          · intro a b ha hb
            have : wx.heap.size = a := by injection ha
            have := p2 b hb
            omega
          · intro a b ha hb
            have : wx.heap.size = a := by injection ha
            have := p3 b hb
            omega
          · intro a b ha hb
            have : wx.heap.size = a := by injection ha
            have := p4 b hb
            omega
          · intro e
            obtain ⟨g, -, -, h3⟩ := hC.s9 e
            exact absurd hun h3
        go_wp2
        exact ⟨_, rfl, ⟨_, rfl⟩, trivial, hnew⟩
      · go_wp2
        exact ⟨_, rfl, rfl, trivial, hC⟩
      · rw [show u 3 = _ from hd]
        have e1 := (bel_cell hC.b bs).trans d1
        go_wp2
        exact ⟨_, rfl, rfl, trivial, hC⟩
      · go_wp2
        exact ⟨_, rfl, rfl, trivial, hC⟩
      · rw [show u 4 = _ from hd.1, show u 5 = _ from hd.2]
        have hBx := hB1.trans (hC.b.mono hz1)
        go_wp2_with fail
        refine (openSteps_any _ _ ps xs b b' wx (hp0.keep hBx) (hx0.keep hBx) hl7 HN.out.2.1 HN.out.2.2.1 HN.out.2.2.2.1).mono ?_
        rintro e w4 ⟨r, rfl, hr, hb4⟩
        have hK := hC.keep hb4
        have hne : r ≠ undef := fun e => by
          obtain ⟨Ar, cr, hv, -⟩ := hr.form
          rw [e] at hv
          cases hv
        obtain ⟨p1, p2, p3, p4, p5, p6, p7, p8, p9, p10⟩ := ap_at hC
        obtain ⟨q1, q2, q3, q4, q5, q6, q7, q8, q9, q10⟩ := ap_at hK
        have hfr := blk_fresh hr
        have hnew : PSt w1 N (openL ps xs) (uu 2) r (uu 7) (uu 8) (uu 9) (uu 10) w4 := by
          refine ⟨hK.b, hK.r2, .inr (hr.mono hC.b.size), hK.r7, hK.r8, ap_mk ⟨q1, fun a ha => (hfr a ha).2, q3, q4, ?_, q6, q7, ?_, ?_, q10⟩, hK.s9, ?_⟩
          · intro a b ha hb
            have := p1 a ha
            have := (hfr b hb).1
            omega
          · intro a b ha hb
            have := p3 b hb
            have := (hfr a ha).1
            omega
          · intro a b ha hb
            have := p4 b hb
            have := (hfr a ha).1
            omega
          · intro e
            obtain ⟨g, -, -, h3⟩ := hC.s10 e
            exact absurd hun h3
        go_wp2
        exact ⟨r, rfl, hne, trivial, hnew⟩
      · have hK := hC.keep ((Below.refl wx.heap.size wx).alloc (Nat.le_refl _) (.cells #[.slice none 0 0] 25))
        obtain ⟨p1, p2, p3, p4, p5, p6, p7, p8, p9, p10⟩ := ap_at hC
        obtain ⟨q1, q2, q3, q4, q5, q6, q7, q8, q9, q10⟩ := ap_at hK
        have hnew : PSt w1 N (openL ps xs) (uu 2) (uu 6) (.pointer (some ⟨wx.heap.size, 0, none⟩)) (uu 8) (uu 9) (uu 10) (wx.alloc (.cells #[.slice none 0 0] 25)) := by
          refine ⟨hK.b, hK.r2, hK.r6, .inr ⟨_, .slice none 0 0, rfl, hC.b.size, by simp, by simp, by simp⟩, hK.r8, ap_mk ⟨q1, q2, ?_, q4, q5, ?_, q7, ?_, q9, ?_⟩, ?_, hK.s10⟩
          · intro a ha
            have : wx.heap.size = a := by injection ha
            simp; omega
          · intro a b ha hb
            have : wx.heap.size = b := by injection hb
            have := p1 a ha
            omega
          · intro a b ha hb
            have : wx.heap.size = b := by injection hb
            have := p2 a ha
            omega
          · intro a b ha hb
            have : wx.heap.size = a := by injection ha
            have := p4 b hb
            omega
          · intro e
            obtain ⟨g, h3, -⟩ := hC.s9 e
            rw [hun] at h3
            cases h3
        go_wp2
        exact ⟨_, rfl, ⟨_, rfl⟩, trivial, hnew⟩
      · have hK := hC.keep ((Below.refl wx.heap.size wx).alloc (Nat.le_refl _) (.cells #[.slice none 0 0] 25))
        obtain ⟨p1, p2, p3, p4, p5, p6, p7, p8, p9, p10⟩ := ap_at hC
        obtain ⟨q1, q2, q3, q4, q5, q6, q7, q8, q9, q10⟩ := ap_at hK
        have hnew : PSt w1 N (openL ps xs) (uu 2) (uu 6) (uu 7) (.pointer (some ⟨wx.heap.size, 0, none⟩)) (uu 9) (uu 10) (wx.alloc (.cells #[.slice none 0 0] 25)) := by
          refine ⟨hK.b, hK.r2, hK.r6, hK.r7, .inr ⟨_, .slice none 0 0, rfl, hC.b.size, by simp, by simp, by simp⟩, ap_mk ⟨q1, q2, q3, ?_, q5, q6, ?_, q8, ?_, ?_⟩, hK.s9, ?_⟩
          · intro a ha
            have : wx.heap.size = a := by injection ha
            simp; omega
          · intro a b ha hb
            have : wx.heap.size = b := by injection hb
            have := p1 a ha
            omega
          · intro a b ha hb
            have : wx.heap.size = b := by injection hb
            have := p2 a ha
            omega
          · intro a b ha hb
            have : wx.heap.size = b := by injection hb
            have := p3 a ha
            omega
          · intro e
            obtain ⟨g, h3, -⟩ := hC.s10 e
            rw [hun] at h3
            cases h3
        go_wp2
        exact ⟨_, rfl, ⟨_, rfl⟩, trivial, hnew⟩
      · have l7 : u 7 = uu 7 := hl 7 (by simp [useOf, Region.binds])
        have l2 : u 2 = uu 2 := hl 2 (by simp [useOf, Region.binds])
        obtain ⟨g7, h7⟩ : ∃ g, u 7 = .pointer (some ⟨g, 0, none⟩) := by first | exact hd.1 | exact hd.2
        obtain ⟨gl, h2⟩ : ∃ g, u 2 = .slice (some ⟨g, 0, none⟩) N N := by first | exact hd.2 | exact hd.1
        have hnew := hC.set7 (g := g7) (by rw [← l7]; exact h7) (by rw [← l2, h2]; intro e; cases e)
        obtain ⟨x, y1, y2⟩ : ∃ x, wx.cell? ⟨g7, 0, none⟩ = some x ∧ wx.frozen? ⟨g7, 0, none⟩ = false := by
          rcases hC.r7 with h | ⟨g', x, e1, e2, e3, e4, e5⟩
          · rw [← l7, h7] at h; cases h
          · rw [← l7, h7] at e1; injection e1 with e1; injection e1 with e1; injection e1 with e1; subst e1; exact ⟨x, e4, e5⟩
        rw [← l2, h2] at hnew
        rw [h7, h2]
        have Hnew := Lib.hid hnew
        clear hnew
        go_wp2
        refine ⟨.bool true, rfl, rfl, trivial, ?_⟩
        have h9 := Hnew.out
        rw [← h2, l2] at h9
        rw [← h2, l2]
        exact h9
      · have l8 : u 8 = uu 8 := hl 8 (by simp [useOf, Region.binds])
        have l6 : u 6 = uu 6 := hl 6 (by simp [useOf, Region.binds])
        obtain ⟨g8, h8⟩ : ∃ g, u 8 = .pointer (some ⟨g, 0, none⟩) := by first | exact hd.1 | exact hd.2
        have h60 : u 6 ≠ undef := by first | exact hd.2 | exact hd.1
        obtain ⟨A6, c6, h6⟩ : ∃ A6 c6, u 6 = .slice A6 (openL ps xs).length c6 := by
          rcases hC.r6 with h | h
          · exact absurd (l6.trans h) h60
          · obtain ⟨A6, c6, hv, -⟩ := h.form
            exact ⟨A6, c6, l6.trans hv⟩
        have hnew := hC.set8 (g := g8) (by rw [← l8]; exact h8) (by rw [← l6]; exact h60)
        obtain ⟨x, y1, y2⟩ : ∃ x, wx.cell? ⟨g8, 0, none⟩ = some x ∧ wx.frozen? ⟨g8, 0, none⟩ = false := by
          rcases hC.r8 with h | ⟨g', x, e1, e2, e3, e4, e5⟩
          · rw [← l8, h8] at h; cases h
          · rw [← l8, h8] at e1; injection e1 with e1; injection e1 with e1; injection e1 with e1; subst e1; exact ⟨x, e4, e5⟩
        obtain ⟨L6, hL6⟩ : ∃ L, (openL ps xs).length = L := ⟨_, rfl⟩
        rw [hL6] at h6
        rw [← l6, h6] at hnew
        rw [h8, h6]
        have Hnew := Lib.hid hnew
        clear hnew hL6
        go_wp2
        refine ⟨.bool true, rfl, rfl, trivial, ?_⟩
        have h9 := Hnew.out
        rw [← h6, l6] at h9
        rw [← h6, l6]
        exact h9
    · intro u f wx hC hfin
      simp only [fillEnd, fillF, Act.put, List.setIfInBounds_toArray, List.set_cons_succ, List.set_cons_zero]
      have v9 : u 9 = .bool true := hfin 9 (by decide) (by decide)
      have v10 : u 10 = .bool true := hfin 10 (by decide) (by decide)
      obtain ⟨g7, h7, c7, n7⟩ := hC.s9 v9
      obtain ⟨g8, h8, c8, n8⟩ := hC.s10 v10
      obtain ⟨gl, h2, hR⟩ : ∃ g, u 2 = .slice (some ⟨g, 0, none⟩) N N ∧ Row wx w1.heap.size g N N (List.replicate N 0) := by
        rcases hC.r2 with h | h
        · exact absurd h n7
        · exact h
      have h6 : Ints wx w1.heap.size (u 6) (openL ps xs) := by
        rcases hC.r6 with h | h
        · exact absurd h n8
        · exact h
      obtain ⟨p1, p2, p3, p4, p5, p6, p7, p8, p9, p10⟩ := ap_at hC
      have a7 : g7 < wx.heap.size := p3 g7 (by rw [h7]; rfl)
      have a8 : g8 < wx.heap.size := p4 g8 (by rw [h8]; rfl)
      have b7 : g7 ≠ gl := (p6 gl g7 (by rw [h2]; rfl) (by rw [h7]; rfl)).symm
      have b8 : g8 ≠ gl := (p7 gl g8 (by rw [h2]; rfl) (by rw [h8]; rfl)).symm
      have b6 : (u 6).ownBlock ≠ some gl := by
        intro hb
        obtain ⟨A6, c6, hv, -⟩ := h6.form
        refine p5 gl gl (by rw [h2]; rfl) ?_ rfl
        rw [hv] at hb ⊢
        cases A6 with
        | none => cases hb
        | some A6 => exact hb
      have hBx := hC.b
      have bx := bx1.keep hBx
      have hBw := hB1.trans (hBx.mono hz1)
      have hgl := hR.lt
      have hAo : (Value.slice A ps.length c).ownBlock ≠ some gl := by
        intro hb
        have := (hp0.1.lt gl hb).2
        omega
      rw [openL_eq] at h6
      rw [h2] at c7
      rw [h7, h8]
      generalize u 6 = us at *
      generalize u 2 = u2 at *
      have HU := Lib.hid (And.intro h6 (And.intro b6 hAo))
      have HR := Lib.hid hR
      clear hC hfin v9 v10 h7 h8 n7 n8 h2 h6 b6 hAo p1 p2 p3 p4 p5 p6 p7 p8 p9 p10 hR bx1 d0 d1 bs
      obtain ⟨A6, c6, rfl, -, -, -, -⟩ := HU.out.1.form
      obtain ⟨L6, hL6⟩ : ∃ L, ((stL ps xs).map fun s : Nat => (s : Int)).length = L := ⟨_, rfl⟩
      rw [hL6] at HU c8 ⊢
      obtain ⟨bs, d0, d1, -, -⟩ := id bx
      have hz8 := hBw.size
      clear hL6
      go_wp2_with fail
      go_loopw [23] (fun i wr => ∃ r : Nat, r ≤ N ∧ i = .int .i64 r ∧ Row wr w1.heap.size gl N N (prcN ps (stL ps xs) N r) ∧ wx.grownBy wr (some gl) ∧ (∀ j, j < r → prcL ps (stL ps xs) (prcN ps (stL ps xs) N j) ≠ prcN ps (stL ps xs) N j)) (fun i _ => N - (intOf i).toNat)
      case atStart => exact ⟨0, by omega, rfl, HR.out, grow_refl _ _, fun j hj => by omega⟩
      case round =>
        obtain ⟨r, hr, rfl, hR, hg, hall⟩ := hrel
        have Hall := Lib.hid hall
        clear hall
        obtain ⟨hcg, -⟩ := gcell hg
        have e7 := (hcg g7 0 a7 b7).trans c7
        have e8 := (hcg g8 0 a8 b8).trans c8
        have e1 := (hcg w.heap.size 1 bs (by omega)).trans d1
        have hzr := hg.size
        by_cases hlt : r < N
        · have hbd : ∀ v, -1000 ≤ (prcN ps (stL ps xs) N r).getD v 0 ∧ (prcN ps (stL ps xs) N r).getD v 0 ≤ 1000 := fun v => by
            have h1 := stL_len ps xs
            rcases prcN_bd HI.out (net_costs HN.out.1) r v with h | h
            · omega
            · omega
          have Hbd := Lib.hid hbd
          have h14 : (stL ps xs).length ≤ 14 := by have := stL_len ps xs; omega
          have Hchg := Lib.hid (chg_no HI.out (F := stL ps xs) (P := prcN ps (stL ps xs) N r) (fun _ h => h) (prcN_len _ _ _ _))
          have Hst := Lib.hid (fun h => settled (n := (N : Int)) HN.out.2.2.2.2 (r := r) (by rw [Int.toNat_natCast]; exact h))
          have hBr : Below w.heap.size w wr := hBw.trans (below_grow (B := w.heap.size) hg (by omega) (fun q hq => by injection hq with hq; omega))
          clear hbd hcg
          go_wp2_with fail
          refine (settle_any g8 w.heap.size g7 gl N N w1.heap.size _ _ ps (stL ps xs) (prcN ps (stL ps xs) N r) b w1.heap.size wr (hp0.keep hBr) (ints_off HU.out.1 hg HU.out.2.1) hR HI.out hl7 (net_costs HN.out.1) h14 Hbd.out HU.out.2.1 HU.out.2.2 e8 e1 e7 (by omega) (by omega) (by omega) b8 (by omega) b7).mono ?_
          rintro e w9 ⟨rfl, hR9, hg9⟩
          have hg99 : wx.grownBy w9 (some gl) := grow_more hg hg9 (fun q hq => .inr hq)
          have hB9 : Below w.heap.size w w9 := hBw.trans (below_grow (B := w.heap.size) hg99 (by omega) (fun q hq => by injection hq with hq; omega))
          have hR10 : Row w9 w1.heap.size gl N N (prcN ps (stL ps xs) N (r + 1)) := hR9
          obtain ⟨hcg9, -⟩ := gcell hg99
          have e79 := (hcg9 g7 0 a7 b7).trans c7
          clear hcg9
          cases hcb : chgB ps (stL ps xs) (prcN ps (stL ps xs) N r) with
          | true =>
            have Hne : Hid (prcL ps (stL ps xs) (prcN ps (stL ps xs) N r) ≠ prcN ps (stL ps xs) N r) := Lib.hid fun h => by
              have := Hchg.out.2 h
              rw [hcb] at this
              cases this
            have HR10 := Lib.hid hR10
            clear hcb hR9 hR10 hR e7 e8 e1
            go_wp2
            go_roundw
            case rel => exact ⟨r + 1, by omega, by go_num, HR10.out, hg99, fun j hj => by
              by_cases hjr : j = r
              · rw [hjr]; exact Hne.out
              · exact Hall.out j (by omega)⟩
            case measure => simp [intOf]; omega
          | false =>
            have hsame := Hchg.out.1 hcb
            have hset := Hst.out hsame
            have Hset := Lib.hid hset
            have hfin : Hid (priceR (N : Int) ps xs = prcN ps (stL ps xs) N r) := Lib.hid (by
              have := Hset.out.2 (by rw [Int.toNat_natCast]; exact hlt)
              rw [Int.toNat_natCast] at this
              exact this)
            rw [hsame] at hR9
            have hI9 := hR9.ints.mono hz1
            clear hcb hsame hset hR10 hR e7 e8 e1 hR9
            go_wp2
            go_ret2
            exact ⟨_, ret_vb Hset.out.1.symm, by rw [hfin.out]; exact hI9, hB9⟩
        · have hrN : r = N := by omega
          have hun : Hid (pricedB (N : Int) ps xs = false) := Lib.hid (unsettled HN.out.2.2.2.2 (by
            rw [Int.toNat_natCast]
            exact Hall.out (N - 1) (by omega)))
          have hB9 : Below w.heap.size w wr := hBw.trans (below_grow (B := w.heap.size) hg (by omega) (fun q hq => by injection hq with hq; omega))
          clear e7 e8 e1
          go_wp2
          go_ret2
          exact ⟨_, ret_vb hun.out.symm, by rw [priceR, if_neg (by rw [hun.out]; simp)]; exact Ints_nil _ _, hB9⟩
  · have hh' : holdsB n ps xs = false := by simpa using hh
    rw [hh']
    have Hw : Hid (pricedB n ps xs = false) := Lib.hid (by simp [pricedB, hh'])
    clear hh hh'
    go_wp2
    go_ret2
    exact ⟨_, ret_vb Hw.out.symm, by rw [priceR, if_neg (by rw [Hw.out]; simp)]; exact Ints_nil _ _, hB1⟩

end Go.Proofs.Ythkidcipimfkfaa
