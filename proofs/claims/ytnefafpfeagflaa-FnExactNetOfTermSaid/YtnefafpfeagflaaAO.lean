/- Contracts of the functions of chapter 8 in the model: l8Place, NetOfTerm. -/
import Derived.Test.YtnefafpfeagflaaAU
import Derived.Test.YtnefafpfeagflaaA6
import Derived.Test.YtnefafpfeagflaaGA
namespace Go.Proofs.Ytnefafpfeagflaa
open Go.RowKit

/-- what the operations yield -/
def lpV (B : Nat) (g o c : Nat) (ff t h p n : Int) : Nat → Value → World → Prop
  | 0, x, _ => x = .int .i64 ff
  | 1, x, _ => x = .int .i64 t
  | 2, x, _ => x = .slice (some ⟨g, o, none⟩) 1 c
  | 3, x, _ => x = .int .i64 0
  | 4, x, _ => x = .pointer (some ⟨g, o, none⟩)
  | 5, x, _ => x = .pointer (some ⟨g, o + 1, none⟩)
  | 6, x, _ => x = .int .i64 h
  | 7, x, _ => x = .slice (some ⟨g, o, none⟩) 1 c
  | 8, x, _ => x = .int .i64 0
  | 9, x, _ => x = .pointer (some ⟨g, o, none⟩)
  | 10, x, _ => x = .pointer (some ⟨g, o + 2, none⟩)
  | 11, x, _ => x = .int .i64 p
  | 12, x, _ => x = .agg #[.int .i64 ff, .int .i64 t, .int .i64 0, .int .i64 h, .int .i64 p]
  | 13, x, w => ∃ q, x = .slice (some ⟨q, 0, none⟩) 1 1 ∧ B ≤ q ∧ w.heap[q]? = some (.cells #[.int .i64 ff, .int .i64 t, .int .i64 0, .int .i64 h, .int .i64 p] 41 (0, 0))
  | 14, x, _ => x = .int .i64 n
  | 15, x, w => ∃ q, x = .slice (some ⟨q, 0, none⟩) 1 1 ∧ B ≤ q ∧ w.heap[q]? = some (.cells #[.int .i64 ff, .int .i64 t, .int .i64 0, .int .i64 h, .int .i64 p] 41 (0, 0))
  | 16, x, _ => x = .int .i64 n
  | _, _, _ => True

set_option maxHeartbeats 4000000 in
set_option maxRecDepth 20000 in
theorem l8PlacePipe_any (h p : Int) (ff t n : Int) (v : Value) (w : World) (hv : ArgMarks w v [⟨0, h, p⟩]) :
    Calls Try.prog 53 #[v, .int .i64 ff, .int .i64 t, .int .i64 n] w fun e w' => ∃ r, e = .returned (.tuple #[r, .int .i64 n]) ∧ Pipes w' w.heap.size r [⟨ff, t, 0, h, p⟩] ∧ Below w.heap.size w w' := by
  obtain ⟨g, o, c, rfl, hc1, hc2, hg, hc⟩ := hv.at' (by simp)
  obtain ⟨d0, d1, d2⟩ := hc 0 (by simp)
  simp only [Nat.zero_mul, Nat.add_zero, List.getElem_cons_zero] at d0 d1 d2
  simp only [List.length_cons, List.length_nil, Nat.zero_add] at hc1 ⊢
  unfold maxLen at hc2
  clear hc
  go_enter Try.func53, Try.ntmps53
  go_wp2_with fail
  refine wp_region_flow 17 none [(0, 27), (1, 28), (2, 29), (3, 30), (4, 31), (5, 32), (6, 33), (7, 34), (8, 35), (9, 36), (10, 37), (11, 38), (12, 39), (13, 40), (14, 41), (15, 8), (16, 9)] (fun j x _ wx => lpV w.heap.size g o c ff t h p n j x wx) (fun _ wx wy => Below wx.heap.size wx wy) (fun _ wx => Below w.heap.size w wx) (by kernel_rfl) (by kernel_rfl) rfl ⟨rfl, rfl, rfl, Nat.le_refl _, fun _ _ => rfl⟩ ?_ ?_ ?_ ?_
  · intro i j hi hj hal x u wa wb hR hV
    have hj' : j < 17 := hj
    rcases j with _ | _ | _ | _ | _ | _ | _ | _ | _ | _ | _ | _ | _ | _ | _ | _ | _ | j
    all_goals first | exact hV | (exfalso; omega) | (obtain ⟨q, h1, h2, h3⟩ := hV; exact ⟨q, h1, h2, heap_keep h3 hR⟩)
  · exact fun _ _ _ _ _ _ _ h => h
  · simp (maxSteps := 4000000) only [eachOp, fillF, List.setIfInBounds_toArray, List.set_cons_succ, List.set_cons_zero]
    refine ⟨?_, ?_, ?_, ?_, ?_, ?_, ?_, ?_, ?_, ?_, ?_, ?_, ?_, ?_, ?_, ?_, ?_, trivial⟩ <;> intro u f wx hC hd <;> (try simp [allV, useOf, Region.binds] at hd)
    · have hBz := hC.size
      go_wp2
      exact ⟨_, rfl, rfl, Below.refl _ _, hC⟩
    · have hBz := hC.size
      go_wp2
      exact ⟨_, rfl, rfl, Below.refl _ _, hC⟩
    · have hBz := hC.size
      go_wp2
      exact ⟨_, rfl, rfl, Below.refl _ _, hC⟩
    · have hBz := hC.size
      go_wp2
      exact ⟨_, rfl, rfl, Below.refl _ _, hC⟩
    · rw [show u 2 = _ from (by first | exact hd | exact hd.1 | exact hd.2 | exact hd.2.1 | exact hd.2.2 | exact hd.2.2.1 | exact hd.2.2.2 | exact hd.2.2.2.1 | exact hd.2.2.2.2), show u 3 = _ from (by first | exact hd | exact hd.1 | exact hd.2 | exact hd.2.1 | exact hd.2.2 | exact hd.2.2.1 | exact hd.2.2.2 | exact hd.2.2.2.1 | exact hd.2.2.2.2)]
      have hBz := hC.size
      go_wp2
      exact ⟨_, rfl, rfl, Below.refl _ _, hC⟩
    · rw [show u 4 = _ from (by first | exact hd | exact hd.1 | exact hd.2 | exact hd.2.1 | exact hd.2.2 | exact hd.2.2.1 | exact hd.2.2.2 | exact hd.2.2.2.1 | exact hd.2.2.2.2)]
      have hBz := hC.size
      go_wp2
      exact ⟨_, rfl, rfl, Below.refl _ _, hC⟩
    · rw [show u 5 = _ from (by first | exact hd | exact hd.1 | exact hd.2 | exact hd.2.1 | exact hd.2.2 | exact hd.2.2.1 | exact hd.2.2.2 | exact hd.2.2.2.1 | exact hd.2.2.2.2)]
      have hBz := hC.size
      have e0 := (hC.cell (p := ⟨g, o + 1, none⟩) hg).trans d1
      go_wp2
      exact ⟨_, rfl, rfl, Below.refl _ _, hC⟩
    · have hBz := hC.size
      go_wp2
      exact ⟨_, rfl, rfl, Below.refl _ _, hC⟩
    · have hBz := hC.size
      go_wp2
      exact ⟨_, rfl, rfl, Below.refl _ _, hC⟩
    · rw [show u 7 = _ from (by first | exact hd | exact hd.1 | exact hd.2 | exact hd.2.1 | exact hd.2.2 | exact hd.2.2.1 | exact hd.2.2.2 | exact hd.2.2.2.1 | exact hd.2.2.2.2), show u 8 = _ from (by first | exact hd | exact hd.1 | exact hd.2 | exact hd.2.1 | exact hd.2.2 | exact hd.2.2.1 | exact hd.2.2.2 | exact hd.2.2.2.1 | exact hd.2.2.2.2)]
      have hBz := hC.size
      go_wp2
      exact ⟨_, rfl, rfl, Below.refl _ _, hC⟩
    · rw [show u 9 = _ from (by first | exact hd | exact hd.1 | exact hd.2 | exact hd.2.1 | exact hd.2.2 | exact hd.2.2.1 | exact hd.2.2.2 | exact hd.2.2.2.1 | exact hd.2.2.2.2)]
      have hBz := hC.size
      go_wp2
      exact ⟨_, rfl, rfl, Below.refl _ _, hC⟩
    · rw [show u 10 = _ from (by first | exact hd | exact hd.1 | exact hd.2 | exact hd.2.1 | exact hd.2.2 | exact hd.2.2.1 | exact hd.2.2.2 | exact hd.2.2.2.1 | exact hd.2.2.2.2)]
      have hBz := hC.size
      have e0 := (hC.cell (p := ⟨g, o + 2, none⟩) hg).trans d2
      go_wp2
      exact ⟨_, rfl, rfl, Below.refl _ _, hC⟩
    · rw [show u 0 = _ from (by first | exact hd | exact hd.1 | exact hd.2 | exact hd.2.1 | exact hd.2.2 | exact hd.2.2.1 | exact hd.2.2.2 | exact hd.2.2.2.1 | exact hd.2.2.2.2), show u 1 = _ from (by first | exact hd | exact hd.1 | exact hd.2 | exact hd.2.1 | exact hd.2.2 | exact hd.2.2.1 | exact hd.2.2.2 | exact hd.2.2.2.1 | exact hd.2.2.2.2), show u 6 = _ from (by first | exact hd | exact hd.1 | exact hd.2 | exact hd.2.1 | exact hd.2.2 | exact hd.2.2.1 | exact hd.2.2.2 | exact hd.2.2.2.1 | exact hd.2.2.2.2), show u 11 = _ from (by first | exact hd | exact hd.1 | exact hd.2 | exact hd.2.1 | exact hd.2.2 | exact hd.2.2.1 | exact hd.2.2.2 | exact hd.2.2.2.1 | exact hd.2.2.2.2)]
      have hBz := hC.size
      go_wp2
      exact ⟨_, rfl, rfl, Below.refl _ _, hC⟩
    · rw [show u 12 = _ from (by first | exact hd | exact hd.1 | exact hd.2 | exact hd.2.1 | exact hd.2.2 | exact hd.2.2.1 | exact hd.2.2.2 | exact hd.2.2.2.1 | exact hd.2.2.2.2)]
      have hBz := hC.size
      go_wp2
      exact ⟨_, rfl, ⟨_, rfl, hBz, heap_alloc_new _ _⟩, (Below.refl _ _).alloc (Nat.le_refl _) _, hC.alloc hBz _⟩
    · have hBz := hC.size
      go_wp2
      exact ⟨_, rfl, rfl, Below.refl _ _, hC⟩
    · have hBz := hC.size
      go_wp2
      exact ⟨_, rfl, hd, Below.refl _ _, hC⟩
    · rw [show u 14 = _ from (by first | exact hd | exact hd.1 | exact hd.2 | exact hd.2.1 | exact hd.2.2 | exact hd.2.2.1 | exact hd.2.2.2 | exact hd.2.2.2.1 | exact hd.2.2.2.2)]
      have hBz := hC.size
      go_wp2
      exact ⟨_, rfl, rfl, Below.refl _ _, hC⟩
  · intro u f wx hC hfin
    simp only [fillEnd, fillF, Act.put, List.setIfInBounds_toArray, List.set_cons_succ, List.set_cons_zero]
    obtain ⟨q, h15, hq1, hq2⟩ : ∃ q, u 15 = .slice (some ⟨q, 0, none⟩) 1 1 ∧ w.heap.size ≤ q ∧ wx.heap[q]? = some (.cells #[.int .i64 ff, .int .i64 t, .int .i64 0, .int .i64 h, .int .i64 p] 41 (0, 0)) := hfin 15 (by decide) (by decide)
    have h16 : u 16 = .int .i64 n := hfin 16 (by decide) (by decide)
    rw [h15, h16]
    clear hfin
    go_wp2_with fail
    refine bodyPost_ret (v := .tuple #[.slice (some ⟨q, 0, none⟩) 1 1, .int .i64 n]) (by simp [results, Try.results53, go_sem]) rfl ⟨_, rfl, ?_, hC⟩
    exact ⟨⟨by simp [Pp.cells], .inr ⟨q, 1, _, rfl, hq1, hq2, Nat.le_refl _, by simp [maxLen], by simp, by simp [Pp.cells]⟩⟩, by simp [small]⟩

set_option maxHeartbeats 8000000 in
set_option maxRecDepth 20000 in
theorem l8Place_any (T : Tm) (hgd : T.good) (h7 : T.pipes ≤ 7) : ∀ (v : Value) (w : World) (f t n : Int), ArgMarks w v T.marks → 0 ≤ n → n + T.thens ≤ 1000 →
    Calls Try.prog 53 #[v, .int .i64 f, .int .i64 t, .int .i64 n] w fun e w' => ∃ r, e = .returned (.tuple #[r, .int .i64 (n + T.thens)]) ∧ Pipes w' w.heap.size r (placeT T f t n) ∧ Below w.heap.size w w' := by
  induction T with
  | pipe h p =>
    intro v w f t n hv _ _
    refine (l8PlacePipe_any h p f t n v w hv).mono ?_
    rintro e w' ⟨r, rfl, hr, hb⟩
    exact ⟨r, by simp [Tm.thens], hr, hb⟩
  | two s a b iha ihb =>
    intro v w f t n hv hn0 hn1
    have pa := a.pipes_pos
    have pb := b.pipes_pos
    have iha := iha hgd.1 (by simp only [Tm.pipes] at h7; omega)
    have ihb := ihb hgd.2 (by simp only [Tm.pipes] at h7; omega)
    have h7b : b.pipes ≤ 7 := by simp only [Tm.pipes] at h7; omega
    have h7a : a.pipes ≤ 7 := by simp only [Tm.pipes] at h7; omega
    have la := a.len13 h7a
    have lb := b.len13 h7b
    have la0 : 0 < a.marks.length := by have := a.marks_len; omega
    have lb0 : 0 < b.marks.length := by have := b.marks_len; omega
    have hl : (Tm.two s a b).marks.length = a.marks.length + b.marks.length + 1 := by simp [Tm.marks]; omega
    obtain ⟨g, o, c, rfl, hc1, hc2, hg, hc⟩ := hv.at' (by omega)
    obtain ⟨hva, hvb, d0, -⟩ := hv.parts
    have hst : ∀ k (hk : k < b.marks.length), w.cell? ⟨g, o + (a.marks.length + k) * 3, none⟩ = some (.int .i64 b.marks[k].k) := fun k hk => by
      have := (hc (a.marks.length + k) (by omega)).1
      have e : (Tm.two s a b).marks[a.marks.length + k]'(by omega) = b.marks[k] := by simp [Tm.marks, List.getElem_append_left hk]
      rw [e] at this
      exact this
    rw [hl] at hc1 ⊢
    unfold maxLen at hc2
    obtain ⟨i0, hi0, hz0, hz1, hz2⟩ := info_parts pipe_info
    have HVA := Lib.hid hva
    have HVB := Lib.hid hvb
    have HST := Lib.hid hst
    have hpl := placeT_len a
    have hpl2 := placeT_len b
    obtain ⟨LA, hLA⟩ : ∃ LA, a.marks.length = LA := ⟨_, rfl⟩
    obtain ⟨M, hM⟩ : ∃ M, a.marks.length + b.marks.length = M := ⟨_, rfl⟩
    rw [hM] at hc1 d0 ⊢
    have HM := Lib.hid (And.intro hLA hM)
    have hM1 : LA < M := by omega
    have hM2 : M ≤ 26 := by omega
    clear hva hvb hst hc hv hl hLA hM
    have hk0 : (kindI s == 0) = false := by cases s <;> rfl
    go_enter Try.func53, Try.ntmps53
    go_wp2_with fail
    refine (l8Starts_any b hgd.2 h7b g o c (M + 1) LA _ _ (by have := HM.out; omega) (by have := HM.out; omega) (by have := HM.out; omega) (by (first | omega | (simp; done) | (simp; omega) | (simp at *; omega))) (by omega) (fun k hk => by
      have := HM.out
      rw [← this.1]
      exact HST.out k hk)).mono ?_
    rintro e w1 ⟨rfl, hb1⟩
    have hz1' := hb1.size
    have d01 := (hb1.cell (p := ⟨g, o + M * 3, none⟩) hg).trans d0
    have hgr1 : g < w1.heap.size := by omega
    clear d0
    cases s
    · have k1 : kindI false = 1 := rfl
      rw [k1] at d01
      clear k1 hk0
      have ht : (Tm.two false a b).thens = a.thens + b.thens + 1 := rfl
      have hpt : placeT (Tm.two false a b) f t n = placeT a f n (n + 1) ++ placeT b n t (n + 1 + a.thens) := rfl
      rw [ht] at hn1
      obtain ⟨ta, hta⟩ : ∃ x, a.thens = x := ⟨_, rfl⟩
      obtain ⟨tb, htb⟩ : ∃ x, b.thens = x := ⟨_, rfl⟩
      rw [hta, htb] at hn1
      have HT := Lib.hid (And.intro hta (And.intro htb (And.intro ht hpt)))
      clear hta htb ht hpt
      go_wp2_with fail
      refine (iha _ w1 _ _ _ (by have h := HVA.out.keep hb1; rw [HM.out.1] at h; exact h) (by omega) (by have := HT.out.1; omega)).mono ?_
      rintro e w2 ⟨ra, rfl, hra, hb2⟩
      rw [HT.out.1]
      have hbw2 : Below w.heap.size w w2 := hb1.trans (hb2.mono hb1.size)
      have hz2' := hb2.size
      clear hb2 d01
      go_wp2_with fail
      refine (ihb _ w2 _ _ _ (by
        have h := HVB.out.keep hbw2
        have hm := HM.out
        rw [hm.1, show b.marks.length = M - LA by omega] at h
        exact h) (by omega) (by have := HT.out.2.1; omega)).mono ?_
      rintro e w3 ⟨rb, rfl, hrb, hb3⟩
      rw [HT.out.2.1]
      have hbw3 : Below w.heap.size w w3 := hbw2.trans (hb3.mono hbw2.size)
      have hra3 := (hra.keep hb3).mono (show w.heap.size ≤ w1.heap.size by omega)
      have hrb3 := hrb
      have hz3' := hb3.size
      clear hb3 hra hrb hbw2
      obtain ⟨Aa, ca, rfl, -, -, -, -⟩ := hra3.form
      obtain ⟨Ab, cb, rfl, -, -, -, -⟩ := hrb3.form
      have lpa : (placeT a f n (n + 1)).length ≤ 7 := by rw [hpl]; exact h7a
      have lpb : (placeT b n t (n + 1 + (ta : Int))).length ≤ 7 := by rw [hpl2]; exact h7b
      have hsrc := hrb3.src
      have hown := hra3.1
      have HAp := Lib.hid (fun (r : Value) (w7 : World) (h : w7.ownsRow w.heap.size 41 5 r ((placeT a f n (n + 1)).length + (placeT b n t (n + 1 + (ta : Int))).length) ((placeT a f n (n + 1)).flatMap Pp.cells ++ (placeT b n t (n + 1 + (ta : Int))).flatMap Pp.cells)) => (show Pipes w7 w.heap.size r (placeT a f n (n + 1) ++ placeT b n t (n + 1 + (ta : Int))) from ⟨by rw [List.length_append, List.flatMap_append]; exact h, by rw [List.length_append]; unfold small; omega⟩))
      have HPT := Lib.hid (show placeT (Tm.two false a b) f t n = placeT a f n (n + 1) ++ placeT b n t (n + 1 + (ta : Int)) by rw [HT.out.2.2.2, HT.out.1])
      have HVL := Lib.hid (show n + ((Tm.two false a b).thens : Int) = n + 1 + (ta : Int) + (tb : Int) by rw [HT.out.2.2.1, HT.out.1, HT.out.2.1]; push_cast; omega)
      generalize hX : placeT a f n (n + 1) = X at *
      generalize hY : placeT b n t (n + 1 + (ta : Int)) = Y at *
      obtain ⟨lx, hlx⟩ : ∃ l, X.length = l := ⟨_, rfl⟩
      obtain ⟨ly, hly⟩ : ∃ l, Y.length = l := ⟨_, rfl⟩
      rw [hlx] at hown HAp lpa
      rw [hly] at hsrc HAp lpb
      rw [hlx, hly]
      clear hX hY hra3 hrb3 hlx hly iha ihb hpl hpl2
      go_wp2_with (first
        | (at_builtin
           go_must (refine wpList_append_src rfl _ _ 31 rfl w.heap.size 41 i0 _ 5 40 Try.underlying31 hi0 hz0 hz1 hz2 rfl (by omega) _ _ lx ly _ _ rfl rfl hown hsrc (by unfold maxLen; omega) (by omega) hbw3.size ?_)
           intro r7 w7 hown7 hgr7 hat7))
      have hb7 : Below w.heap.size w w7 := Below.grown hbw3 hgr7 hbw3.size (fun q hq => (hown.lt q hq).1)
      have hfin := HAp.out r7 w7 hown7
      have HF := Lib.hid (And.intro hfin hb7)
      clear hown7 hgr7 hat7 hfin hb7 hown hsrc hbw3
      go_wp2_with fail
      refine bodyPost_ret (v := .tuple #[r7, .int .i64 (n + 1 + (ta : Int) + (tb : Int))]) (by simp [results, Try.results53, go_sem]) rfl ⟨_, by rw [HVL.out], by rw [HPT.out]; exact HF.out.1, HF.out.2⟩
    · have k1 : kindI true = 2 := rfl
      rw [k1] at d01
      clear k1 hk0
      have ht : (Tm.two true a b).thens = a.thens + b.thens := rfl
      have hpt : placeT (Tm.two true a b) f t n = placeT a f t n ++ placeT b f t (n + a.thens) := rfl
      rw [ht] at hn1
      obtain ⟨ta, hta⟩ : ∃ x, a.thens = x := ⟨_, rfl⟩
      obtain ⟨tb, htb⟩ : ∃ x, b.thens = x := ⟨_, rfl⟩
      rw [hta, htb] at hn1
      have HT := Lib.hid (And.intro hta (And.intro htb (And.intro ht hpt)))
      clear hta htb ht hpt
      go_wp2_with fail
      refine (iha _ w1 _ _ _ (by have h := HVA.out.keep hb1; rw [HM.out.1] at h; exact h) (by omega) (by have := HT.out.1; omega)).mono ?_
      rintro e w2 ⟨ra, rfl, hra, hb2⟩
      rw [HT.out.1]
      have hbw2 : Below w.heap.size w w2 := hb1.trans (hb2.mono hb1.size)
      have hz2' := hb2.size
      clear hb2 d01
      go_wp2_with fail
      refine (ihb _ w2 _ _ _ (by
        have h := HVB.out.keep hbw2
        have hm := HM.out
        rw [hm.1, show b.marks.length = M - LA by omega] at h
        exact h) (by omega) (by have := HT.out.2.1; omega)).mono ?_
      rintro e w3 ⟨rb, rfl, hrb, hb3⟩
      rw [HT.out.2.1]
      have hbw3 : Below w.heap.size w w3 := hbw2.trans (hb3.mono hbw2.size)
      have hra3 := (hra.keep hb3).mono (show w.heap.size ≤ w1.heap.size by omega)
      have hrb3 := hrb
      have hz3' := hb3.size
      clear hb3 hra hrb hbw2
      obtain ⟨Aa, ca, rfl, -, -, -, -⟩ := hra3.form
      obtain ⟨Ab, cb, rfl, -, -, -, -⟩ := hrb3.form
      have lpa : (placeT a f t n).length ≤ 7 := by rw [hpl]; exact h7a
      have lpb : (placeT b f t (n + (ta : Int))).length ≤ 7 := by rw [hpl2]; exact h7b
      have hsrc := hrb3.src
      have hown := hra3.1
      have HAp := Lib.hid (fun (r : Value) (w7 : World) (h : w7.ownsRow w.heap.size 41 5 r ((placeT a f t n).length + (placeT b f t (n + (ta : Int))).length) ((placeT a f t n).flatMap Pp.cells ++ (placeT b f t (n + (ta : Int))).flatMap Pp.cells)) => (show Pipes w7 w.heap.size r (placeT a f t n ++ placeT b f t (n + (ta : Int))) from ⟨by rw [List.length_append, List.flatMap_append]; exact h, by rw [List.length_append]; unfold small; omega⟩))
      have HPT := Lib.hid (show placeT (Tm.two true a b) f t n = placeT a f t n ++ placeT b f t (n + (ta : Int)) by rw [HT.out.2.2.2, HT.out.1])
      have HVL := Lib.hid (show n + ((Tm.two true a b).thens : Int) = n + (ta : Int) + (tb : Int) by rw [HT.out.2.2.1, HT.out.1, HT.out.2.1]; push_cast; omega)
      generalize hX : placeT a f t n = X at *
      generalize hY : placeT b f t (n + (ta : Int)) = Y at *
      obtain ⟨lx, hlx⟩ : ∃ l, X.length = l := ⟨_, rfl⟩
      obtain ⟨ly, hly⟩ : ∃ l, Y.length = l := ⟨_, rfl⟩
      rw [hlx] at hown HAp lpa
      rw [hly] at hsrc HAp lpb
      rw [hlx, hly]
      clear hX hY hra3 hrb3 hlx hly iha ihb hpl hpl2
      go_wp2_with (first
        | (at_builtin
           go_must (refine wpList_append_src rfl _ _ 31 rfl w.heap.size 41 i0 _ 5 40 Try.underlying31 hi0 hz0 hz1 hz2 rfl (by omega) _ _ lx ly _ _ rfl rfl hown hsrc (by unfold maxLen; omega) (by omega) hbw3.size ?_)
           intro r7 w7 hown7 hgr7 hat7))
      have hb7 : Below w.heap.size w w7 := Below.grown hbw3 hgr7 hbw3.size (fun q hq => (hown.lt q hq).1)
      have hfin := HAp.out r7 w7 hown7
      have HF := Lib.hid (And.intro hfin hb7)
      clear hown7 hgr7 hat7 hfin hb7 hown hsrc hbw3
      go_wp2_with fail
      refine bodyPost_ret (v := .tuple #[r7, .int .i64 (n + (ta : Int) + (tb : Int))]) (by simp [results, Try.results53, go_sem]) rfl ⟨_, by rw [HVL.out], by rw [HPT.out]; exact HF.out.1, HF.out.2⟩

set_option maxHeartbeats 1000000 in
set_option maxRecDepth 20000 in
theorem specNetOfTerm_any (v : Value) (ts : List Mk) (b : Nat) (w : World) (h : Marks w b v ts) :
    Calls Try.prog 24 #[v] w fun e w' => ∃ s, e = .returned (.tuple #[.agg #[.int .i64 (termNetN ts), s], .bool (termB ts)]) ∧ Pipes w' w.heap.size s (termNetL ts) ∧ Below w.heap.size w w' := by
  obtain ⟨A, c, rfl, hc1, hc2, -, -⟩ := h.form
  unfold maxLen at hc2
  have hwz : (w.alloc (.cells #[.int .i64 0, .slice none 0 0] 33)).heap.size = w.heap.size + 1 := by simp
  cases ht : termB ts
  · have HR := Lib.hid (termNet_no ht)
    go_enter Try.func24, Try.ntmps24
    go_wp2_with fail
    refine (specTermOk_any _ ts b _ (h.keep (by (repeat (first | (with_reducible assumption) | (with_reducible exact Below.refl _ _) | ((with_reducible refine Below.alloc ?_ ?hsz _); (case hsz => (first | omega | (simp; done) | (simp; omega) | (simp at *; omega)))) | ((with_reducible refine Below.setCell ?_ ?hsz _); (case hsz => (first | omega | (simp; done) | (simp; omega) | (simp at *; omega)))) | (with_reducible refine Below.drew ?_) | (with_reducible refine below_drewN ?_ _) | ((with_reducible refine Below.trans ?_ (Below.mono (by with_reducible assumption) ?hsz)); (case hsz => (first | omega | (simp; done) | (simp; omega) | (simp at *; omega))))))))).mono ?_
    rintro e w1 ⟨rfl, hb1⟩
    rw [ht]
    have hB1 : Below w.heap.size w w1 := by (repeat (first | (with_reducible assumption) | (with_reducible exact Below.refl _ _) | ((with_reducible refine Below.alloc ?_ ?hsz _); (case hsz => (first | omega | (simp; done) | (simp; omega) | (simp at *; omega)))) | ((with_reducible refine Below.setCell ?_ ?hsz _); (case hsz => (first | omega | (simp; done) | (simp; omega) | (simp at *; omega)))) | (with_reducible refine Below.drew ?_) | (with_reducible refine below_drewN ?_ _) | ((with_reducible refine Below.trans ?_ (Below.mono (by with_reducible assumption) ?hsz)); (case hsz => (first | omega | (simp; done) | (simp; omega) | (simp at *; omega))))))
    have hz1 := hb1.size
    rw [hwz] at hz1
    have hl1 : w.heap.size < w1.heap.size := by omega
    have q0 := (hb1.cell (p := ⟨w.heap.size, 0, none⟩) (by rw [hwz]; exact Nat.lt_succ_self _)).trans (show (w.alloc (.cells #[.int .i64 0, .slice none 0 0] 33)).cell? ⟨w.heap.size, 0, none⟩ = some (.int .i64 0) by go_simp)
    have q1 := (hb1.cell (p := ⟨w.heap.size, 1, none⟩) (by rw [hwz]; exact Nat.lt_succ_self _)).trans (show (w.alloc (.cells #[.int .i64 0, .slice none 0 0] 33)).cell? ⟨w.heap.size, 1, none⟩ = some (.slice none 0 0) by go_simp)
    have k0 := (hb1.frozen (p := ⟨w.heap.size, 0, none⟩) (by rw [hwz]; exact Nat.lt_succ_self _)).trans (show (w.alloc (.cells #[.int .i64 0, .slice none 0 0] 33)).frozen? ⟨w.heap.size, 0, none⟩ = false by go_simp)
    have k1 := (hb1.frozen (p := ⟨w.heap.size, 1, none⟩) (by rw [hwz]; exact Nat.lt_succ_self _)).trans (show (w.alloc (.cells #[.int .i64 0, .slice none 0 0] 33)).frozen? ⟨w.heap.size, 1, none⟩ = false by go_simp)
    clear hb1
    go_wp2
    refine bodyPost_ret (v := .tuple #[.agg #[.int .i64 0, .slice none 0 0], .bool false]) (by simp [results, Try.results24, go_sem, q0, q1]) rfl ⟨_, by rw [HR.out.1], by rw [HR.out.2]; exact Pipes_nil _ _, (hB1.setCell (p := ⟨w.heap.size, 0, none⟩) (Nat.le_refl _) _).setCell (p := ⟨w.heap.size, 1, none⟩) (Nat.le_refl _) _⟩
  · obtain ⟨hT, hg, h7, h3⟩ := term_of ht
    have HR := Lib.hid (termNet_yes ht)
    have HT := Lib.hid (And.intro hT (And.intro hg (And.intro h7 h3)))
    clear hT hg h7 h3
    go_enter Try.func24, Try.ntmps24
    go_wp2_with fail
    refine (specTermOk_any _ ts b _ (h.keep (by (repeat (first | (with_reducible assumption) | (with_reducible exact Below.refl _ _) | ((with_reducible refine Below.alloc ?_ ?hsz _); (case hsz => (first | omega | (simp; done) | (simp; omega) | (simp at *; omega)))) | ((with_reducible refine Below.setCell ?_ ?hsz _); (case hsz => (first | omega | (simp; done) | (simp; omega) | (simp at *; omega)))) | (with_reducible refine Below.drew ?_) | (with_reducible refine below_drewN ?_ _) | ((with_reducible refine Below.trans ?_ (Below.mono (by with_reducible assumption) ?hsz)); (case hsz => (first | omega | (simp; done) | (simp; omega) | (simp at *; omega))))))))).mono ?_
    rintro e w1 ⟨rfl, hb1⟩
    rw [ht]
    have hz1 := hb1.size
    rw [hwz] at hz1
    have hA := h.arg.keep (w' := w1) (by (repeat (first | (with_reducible assumption) | (with_reducible exact Below.refl _ _) | ((with_reducible refine Below.alloc ?_ ?hsz _); (case hsz => (first | omega | (simp; done) | (simp; omega) | (simp at *; omega)))) | ((with_reducible refine Below.setCell ?_ ?hsz _); (case hsz => (first | omega | (simp; done) | (simp; omega) | (simp at *; omega)))) | (with_reducible refine Below.drew ?_) | (with_reducible refine below_drewN ?_ _) | ((with_reducible refine Below.trans ?_ (Below.mono (by with_reducible assumption) ?hsz)); (case hsz => (first | omega | (simp; done) | (simp; omega) | (simp at *; omega)))))))
    have hA2 : ArgMarks w1 (.slice A ts.length c) (tmOf ts).marks := by rw [← HT.out.1]; exact hA
    have hB1 : Below w.heap.size w w1 := by (repeat (first | (with_reducible assumption) | (with_reducible exact Below.refl _ _) | ((with_reducible refine Below.alloc ?_ ?hsz _); (case hsz => (first | omega | (simp; done) | (simp; omega) | (simp at *; omega)))) | ((with_reducible refine Below.setCell ?_ ?hsz _); (case hsz => (first | omega | (simp; done) | (simp; omega) | (simp at *; omega)))) | (with_reducible refine Below.drew ?_) | (with_reducible refine below_drewN ?_ _) | ((with_reducible refine Below.trans ?_ (Below.mono (by with_reducible assumption) ?hsz)); (case hsz => (first | omega | (simp; done) | (simp; omega) | (simp at *; omega))))))
    have HA := Lib.hid hA2
    clear hA hA2
    go_wp2_with fail
    refine (l8Place_any (tmOf ts) HT.out.2.1 HT.out.2.2.1 _ _ 0 1 2 (HA.out.keep (by (repeat (first | (with_reducible assumption) | (with_reducible exact Below.refl _ _) | ((with_reducible refine Below.alloc ?_ ?hsz _); (case hsz => (first | omega | (simp; done) | (simp; omega) | (simp at *; omega)))) | ((with_reducible refine Below.setCell ?_ ?hsz _); (case hsz => (first | omega | (simp; done) | (simp; omega) | (simp at *; omega)))) | (with_reducible refine Below.drew ?_) | (with_reducible refine below_drewN ?_ _) | ((with_reducible refine Below.trans ?_ (Below.mono (by with_reducible assumption) ?hsz)); (case hsz => (first | omega | (simp; done) | (simp; omega) | (simp at *; omega)))))))) (by omega) (by have := HT.out.2.2.2; omega)).mono ?_
    rintro e w2 ⟨r, rfl, hr, hb2⟩
    have hB2 : Below w.heap.size w w2 := hB1.trans (hb2.mono (by omega))
    have hl1 : w.heap.size < w2.heap.size := by have := hb2.size; omega
    have q0 := (hb2.cell (p := ⟨w.heap.size, 0, none⟩) (show w.heap.size < _ by omega)).trans ((hb1.cell (p := ⟨w.heap.size, 0, none⟩) (by rw [hwz]; exact Nat.lt_succ_self _)).trans (show (w.alloc (.cells #[.int .i64 0, .slice none 0 0] 33)).cell? ⟨w.heap.size, 0, none⟩ = some (.int .i64 0) by go_simp))
    have q1 := (hb2.cell (p := ⟨w.heap.size, 1, none⟩) (show w.heap.size < _ by omega)).trans ((hb1.cell (p := ⟨w.heap.size, 1, none⟩) (by rw [hwz]; exact Nat.lt_succ_self _)).trans (show (w.alloc (.cells #[.int .i64 0, .slice none 0 0] 33)).cell? ⟨w.heap.size, 1, none⟩ = some (.slice none 0 0) by go_simp))
    have k0 := (hb2.frozen (p := ⟨w.heap.size, 0, none⟩) (show w.heap.size < _ by omega)).trans ((hb1.frozen (p := ⟨w.heap.size, 0, none⟩) (by rw [hwz]; exact Nat.lt_succ_self _)).trans (show (w.alloc (.cells #[.int .i64 0, .slice none 0 0] 33)).frozen? ⟨w.heap.size, 0, none⟩ = false by go_simp))
    have k1 := (hb2.frozen (p := ⟨w.heap.size, 1, none⟩) (show w.heap.size < _ by omega)).trans ((hb1.frozen (p := ⟨w.heap.size, 1, none⟩) (by rw [hwz]; exact Nat.lt_succ_self _)).trans (show (w.alloc (.cells #[.int .i64 0, .slice none 0 0] 33)).frozen? ⟨w.heap.size, 1, none⟩ = false by go_simp))
    obtain ⟨A9, c9, rfl, -, -, -, -⟩ := hr.form
    generalize hN9 : (2 : Int) + ((tmOf ts).thens : Int) = n9
    have HN9 := Lib.hid hN9
    obtain ⟨l9, hl9⟩ : ∃ l, (placeT (tmOf ts) 0 1 2).length = l := ⟨_, rfl⟩
    rw [hl9] at hr ⊢
    have HF := Lib.hid hr
    clear hb1 hb2 hr hN9 hl9
    go_wp2
    refine bodyPost_ret (v := .tuple #[.agg #[.int .i64 n9, .slice A9 l9 c9], .bool true]) (by simp [results, Try.results24, go_sem, q0, q1]) rfl ⟨_, by rw [HR.out.1, ← HN9.out]; all_goals (first | rfl | (rw [Int.add_comm]; done)), by rw [HR.out.2]; exact ((HF.out.setLow (by (first | omega | (simp; done) | (simp; omega) | (simp at *; omega)))).setLow (by (first | omega | (simp; done) | (simp; omega) | (simp at *; omega)))).mono (by omega), (hB2.setCell (p := ⟨w.heap.size, 0, none⟩) (Nat.le_refl _) _).setCell (p := ⟨w.heap.size, 1, none⟩) (Nat.le_refl _) _⟩

end Go.Proofs.Ytnefafpfeagflaa
