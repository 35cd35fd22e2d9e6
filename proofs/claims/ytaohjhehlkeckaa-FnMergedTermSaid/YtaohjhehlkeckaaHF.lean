/- Plain facts. -/
import Derived.Test.YtaohjhehlkeckaaBM
import Derived.Test.YtaohjhehlkeckaaAU
import Derived.Test.YtaohjhehlkeckaaHB
import Derived.Test.YtaohjhehlkeckaaHD
import Derived.Test.YtaohjhehlkeckaaF4
import Derived.Deep.DeepCutAuto
import Derived.Test.YtaohjhehlkeckaaAS
/- Contracts of the functions of chapter 9 in the model: l9Merged. -/
namespace Go.Proofs.Ytaohjhehlkeckaa
open Go.RowKit

/-- what the operations yield -/
def brV (B N : Nat) (lv rv : Value) (kd : Int) (L1 L2 : List Mk) : Nat → Value → World → Prop
  | 0, x, _ => x = lv
  | 1, x, _ => x = rv
  | 2, x, w => Marks w B x (L1 ++ L2)
  | 3, x, _ => x = .agg #[.int .i64 kd, .int .i64 0, .int .i64 0]
  | 4, x, w => ∃ g, x = .slice (some ⟨g, 0, none⟩) 1 1 ∧ N ≤ g ∧ w.heap[g]? = some (.cells #[.int .i64 kd, .int .i64 0, .int .i64 0] 33 (0, 0))
  | 5, x, w => Marks w B x (L1 ++ L2 ++ [⟨kd, 0, 0⟩])
  | 6, x, w => Marks w B x (L1 ++ L2 ++ [⟨kd, 0, 0⟩])
  | _, _, _ => True
def brR (N : Nat) : Nat → World → World → Prop
  | 2, wa, wb => ∃ row, wa.grownBy wb row ∧ ∀ q, row = some q → q < N
  | 5, _, _ => True
  | _, wa, wb => Below wa.heap.size wa wb

set_option maxHeartbeats 8000000 in
set_option maxRecDepth 20000 in
theorem l9Merged_any (T : Tm) (hgd : T.good) (h7 : T.pipes ≤ 7) : ∀ (v : Value) (w : World), ArgMarks w v T.marks →
    Calls Try.prog 69 #[v] w fun e w' => ∃ r, e = .returned r ∧ Marks w' w.heap.size r T.merged.marks ∧ Below w.heap.size w w' := by
  obtain ⟨i0, hi0, hz0, hz1, hz2⟩ := info_parts mark_info
  induction T with
  | pipe h p =>
    intro v w hv
    obtain ⟨g, o, c, rfl, hc1, hc2, hg, hc⟩ := hv.at' (by simp [Tm.marks])
    obtain ⟨d0, d1, d2⟩ := hc 0 (by simp [Tm.marks])
    simp only [Tm.marks, Nat.zero_mul, Nat.add_zero, List.getElem_cons_zero] at d0 d1 d2
    simp only [Tm.marks, List.length_cons, List.length_nil, Nat.zero_add] at hc1 ⊢
    unfold maxLen at hc2
    clear hc
    obtain ⟨W0, hW0⟩ : ∃ W, W = w.alloc (.cells #[.int .i64 0, .int .i64 h, .int .i64 p] 33) := ⟨_, rfl⟩
    have hb0 : Below w.heap.size w W0 := by rw [hW0]; (repeat (first | (with_reducible assumption) | (with_reducible exact Below.refl _ _) | ((with_reducible refine Below.alloc ?_ ?hsz _); (case hsz => (first | omega | (simp; done) | (simp; omega) | (simp at *; omega)))) | ((with_reducible refine Below.setCell ?_ ?hsz _); (case hsz => (first | omega | (simp; done) | (simp; omega) | (simp at *; omega)))) | (with_reducible refine Below.drew ?_) | (with_reducible refine below_drewN ?_ _) | ((with_reducible refine Below.trans ?_ (Below.mono (by with_reducible assumption) ?hsz)); (case hsz => (first | omega | (simp; done) | (simp; omega) | (simp at *; omega))))))
    have hz00 : W0.heap.size = w.heap.size + 1 := by rw [hW0]; simp
    have m0 : W0.cell? ⟨w.heap.size, 0, none⟩ = some (.int .i64 0) := by rw [hW0]; go_simp
    have hl0 : (W0.alloc (.cells #[] 33)).ownsRow w.heap.size 33 3 (.slice (some ⟨W0.heap.size, 0, none⟩) 0 0) 0 [] := lit_own0 (by omega) (heap_alloc_new _ _)
    have hbb : Below w.heap.size w (W0.alloc (.cells #[] 33)) := hb0.alloc (by omega) _
    have hsrc : SrcOk (W0.alloc (.cells #[] 33)) 3 (.slice (some ⟨g, o, none⟩) 1 c) 1 [.int .i64 0, .int .i64 h, .int .i64 p] := by
      refine .inr ⟨⟨g, o, none⟩, c, rfl, rfl, fun j u hj => ?_, by simp [Value.oneCell']⟩
      rw [add_nat]
      rcases j with _ | _ | _ | j
      · rw [← hj]; exact (hbb.cell (p := ⟨g, o + 0, none⟩) hg).trans d0
      · rw [← hj]; exact (hbb.cell (p := ⟨g, o + 1, none⟩) hg).trans d1
      · rw [← hj]; exact (hbb.cell (p := ⟨g, o + 2, none⟩) hg).trans d2
      · simp at hj
    rw [hz00] at hl0
    subst hW0
    go_enter Try.func69, Try.ntmps69
    go_wp2_with (first
      | (at_builtin
         go_must (refine wpList_append_src rfl _ _ 23 rfl w.heap.size 33 i0 _ 3 24 Try.underlying23 hi0 hz0 hz1 hz2 rfl (by omega) _ _ 0 1 [] _ rfl rfl hl0 hsrc (by unfold maxLen; omega) (by omega) (by (first | omega | (simp; done) | (simp; omega) | (simp at *; omega))) ?_)
         intro r7 w7 hown7 hgr7 hat7))
    have hb7 : Below w.heap.size w w7 := Below.grown hbb hgr7 (by (first | omega | (simp; done) | (simp; omega) | (simp at *; omega))) (fun q hq => (hl0.lt q hq).1)
    go_ret
    exact ⟨_, rfl, ⟨by simpa [Tm.merged, Tm.marks, Mk.cells] using hown7, by simp [Tm.merged, Tm.marks, small]⟩, hb7⟩
  | two s a b iha ihb =>
    intro v w hv
    have pa := a.pipes_pos
    have pb := b.pipes_pos
    have iha := iha hgd.1 (by simp only [Tm.pipes] at h7; omega)
    have ihb := ihb hgd.2 (by simp only [Tm.pipes] at h7; omega)
    have h7b : b.pipes ≤ 7 := by simp only [Tm.pipes] at h7; omega
    have h7a : a.pipes ≤ 7 := by simp only [Tm.pipes] at h7; omega
    have la := a.len13 h7a
    have lb := b.len13 h7b
    have la0 : 0 < a.marks.length := by have := a.marks_len; omega
    have lb0 : 0 < b.marks.length := by have := b.marks_len; omega
    have hl : (Tm.two s a b).marks.length = a.marks.length + b.marks.length + 1 := by simp [Tm.marks]; omega
    obtain ⟨kd, hkd⟩ : ∃ x, kindI s = x := ⟨_, rfl⟩
    obtain ⟨W0, hW0⟩ : ∃ W, W = w.alloc (.cells #[.int .i64 kd, .int .i64 0, .int .i64 0] 33) := ⟨_, rfl⟩
    have hb0 : Below w.heap.size w W0 := by rw [hW0]; (repeat (first | (with_reducible assumption) | (with_reducible exact Below.refl _ _) | ((with_reducible refine Below.alloc ?_ ?hsz _); (case hsz => (first | omega | (simp; done) | (simp; omega) | (simp at *; omega)))) | ((with_reducible refine Below.setCell ?_ ?hsz _); (case hsz => (first | omega | (simp; done) | (simp; omega) | (simp at *; omega)))) | (with_reducible refine Below.drew ?_) | (with_reducible refine below_drewN ?_ _) | ((with_reducible refine Below.trans ?_ (Below.mono (by with_reducible assumption) ?hsz)); (case hsz => (first | omega | (simp; done) | (simp; omega) | (simp at *; omega))))))
    have hz00 : W0.heap.size = w.heap.size + 1 := by rw [hW0]; simp
    have m0' : W0.cell? ⟨w.heap.size, 0, none⟩ = some (.int .i64 kd) := by rw [hW0]; go_simp
    have m1' : W0.cell? ⟨w.heap.size, 1, none⟩ = some (.int .i64 0) := by rw [hW0]; go_simp
    have m2' : W0.cell? ⟨w.heap.size, 2, none⟩ = some (.int .i64 0) := by rw [hW0]; go_simp
    obtain ⟨g, o, c, rfl, hc1, hc2, hg, hc⟩ := hv.at' (by omega)
    obtain ⟨hva, hvb, -, -⟩ := (hv.keep hb0).parts
    obtain ⟨d0, d1, d2⟩ := hc (a.marks.length + b.marks.length) (by omega)
    have elast : (Tm.two s a b).marks[a.marks.length + b.marks.length]'(by omega) = ⟨kindI s, 0, 0⟩ := by
      simp only [Tm.marks]
      rw [List.getElem_append_right (by omega), List.getElem_append_right (by omega)]
      simp
    rw [elast] at d0 d1 d2
    have hst : ∀ k (hk : k < b.marks.length), W0.cell? ⟨g, o + (a.marks.length + k) * 3, none⟩ = some (.int .i64 b.marks[k].k) := fun k hk => by
      have := (hc (a.marks.length + k) (by omega)).1
      have e : (Tm.two s a b).marks[a.marks.length + k]'(by omega) = b.marks[k] := by simp [Tm.marks, List.getElem_append_left hk]
      rw [e] at this
      exact (hb0.cell (p := ⟨g, _, none⟩) hg).trans this
    rw [hl] at hc1 ⊢
    unfold maxLen at hc2
    have HVA := Lib.hid hva
    have HVB := Lib.hid hvb
    have HST := Lib.hid hst
    have hga := a.merged_good hgd.1
    have hgb := b.merged_good hgd.2
    obtain ⟨LA, hLA⟩ : ∃ LA, a.marks.length = LA := ⟨_, rfl⟩
    obtain ⟨M, hM⟩ : ∃ M, a.marks.length + b.marks.length = M := ⟨_, rfl⟩
    rw [hM, hkd] at d0
    rw [hM] at hc1 d1 d2 ⊢
    have HM := Lib.hid (And.intro hLA hM)
    have hM1 : LA < M := by omega
    have hM2 : M ≤ 26 := by omega
    clear hva hvb hst hc hv hl hLA hM elast
    have hk0 : (kd == 0) = false := by rw [← hkd]; cases s <;> rfl
    have HKD := Lib.hid hkd
    clear hkd
    have hgr0 : g < W0.heap.size := by omega
    go_enter Try.func69, Try.ntmps69
    go_wp2_with fail
    rw [← hW0]
    clear hW0 d0 d1 d2
    refine (l8Starts_any b hgd.2 h7b g o c (M + 1) LA _ _ (by have := HM.out; omega) (by have := HM.out; omega) (by have := HM.out; omega) hgr0 (by omega) (fun k hk => by
      have := HM.out
      rw [← this.1]
      exact HST.out k hk)).mono ?_
    rintro e w1 ⟨rfl, hb1⟩
    have hz1' := hb1.size
    have hbw1 : Below w.heap.size w w1 := hb0.trans (hb1.mono (by omega))
    have hgr1 : g < w1.heap.size := by omega
    go_wp2_with fail
    refine (iha _ w1 (by have h := HVA.out.keep hb1; rw [HM.out.1] at h; exact h)).mono ?_
    rintro e w2 ⟨ra, rfl, hra, hb2⟩
    have hz2' := hb2.size
    have hb12 : Below W0.heap.size W0 w2 := hb1.trans (hb2.mono hz1')
    go_wp2_with fail
    refine (ihb _ w2 (by
      have h := HVB.out.keep hb12
      have hm := HM.out
      rw [hm.1, show b.marks.length = M - LA by omega] at h
      exact h)).mono ?_
    rintro e w3 ⟨rb, rfl, hrb, hb3⟩
    have hz3' := hb3.size
    have hb13 : Below W0.heap.size W0 w3 := hb12.trans (hb3.mono (by omega))
    have hra3 := hra.keep hb3
    have hrb3 := hrb
    have m0 := (hb13.cell (p := ⟨w.heap.size, 0, none⟩) (show w.heap.size < W0.heap.size by omega)).trans m0'
    have m1 := (hb13.cell (p := ⟨w.heap.size, 1, none⟩) (show w.heap.size < W0.heap.size by omega)).trans m1'
    have m2 := (hb13.cell (p := ⟨w.heap.size, 2, none⟩) (show w.heap.size < W0.heap.size by omega)).trans m2'
    obtain ⟨Aa, ca, rfl, hca1, hca2, -, hcA⟩ := hra3.form
    obtain ⟨Ab, cb, rfl, hcb1, hcb2, -, hcB⟩ := hrb3.form
    unfold maxLen at hca2 hcb2
    have hla := Tm.len13 a.merged (by omega)
    have hlb := Tm.len13 b.merged (by omega)
    clear hb1 hb2 hb3 hra hrb iha ihb m0' m1' m2' HVA HVB HST
    obtain ⟨l1, hl1⟩ : ∃ l, a.merged.marks.length = l := ⟨_, rfl⟩
    obtain ⟨l2, hl2⟩ : ∃ l, b.merged.marks.length = l := ⟨_, rfl⟩
    rw [hl1] at hra3 hca1 hla
    rw [hl2] at hrb3 hcb1 hlb
    rw [hl1, hl2]
    obtain ⟨BL, hBL0⟩ : ∃ B, B = w1.heap.size := ⟨_, rfl⟩
    rw [← hBL0] at hra3
    have hrb4 := hrb3.mono (show BL ≤ w2.heap.size by omega)
    have hmb : w.heap.size < BL := by omega
    have hBL3 : BL ≤ w3.heap.size := by omega
    clear hBL0
    have hbw3 : Below w.heap.size w w3 := hb0.trans (hb13.mono (by omega))
    have hTM : (Tm.two s a b).merged = mergeT s a.merged b.merged := rfl
    by_cases hone : a.merged.marks.length = 1 ∧ b.merged.marks.length = 1
    · obtain ⟨h1, p1, e1⟩ := one_pipe hone.1
      obtain ⟨h2, p2, e2⟩ := one_pipe hone.2
      have x1 : l1 = 1 := by rw [← hl1]; exact hone.1
      have x2 : l2 = 1 := by rw [← hl2]; exact hone.2
      subst x1
      subst x2
      obtain ⟨ga, rfl, -, hga3, a0, a1, a2⟩ := hcA w3 (Below.refl _ _) 0 (by omega)
      obtain ⟨gb, rfl, -, hgb3, b0, b1, b2⟩ := hcB w3 (Below.refl _ _) 0 (by omega)
      have y1 : a.merged.marks[0]'(by omega) = ⟨0, h1, p1⟩ := by simp [e1, Tm.marks]
      have y2 : b.merged.marks[0]'(by omega) = ⟨0, h2, p2⟩ := by simp [e2, Tm.marks]
      rw [y1] at a0 a1 a2
      rw [y2] at b0 b1 b2
      simp only [Nat.zero_mul, Nat.zero_add] at a0 a1 a2 b0 b1 b2
      have g1 : (Tm.pipe h1 p1).good := by rw [← e1]; exact hga.1
      have g2 : (Tm.pipe h2 p2).good := by rw [← e2]; exact hgb.1
      obtain ⟨⟨ha0, ha1⟩, ha2, ha3⟩ := g1
      obtain ⟨⟨hb0', hb1'⟩, hb2', hb3'⟩ := g2
      rw [e1, e2] at hTM
      have hmT : mergeT s (.pipe h1 p1) (.pipe h2 p2) = if oneB s h1 p1 h2 p2 = true then .pipe (oneH s h1 h2) (oneP s p1 p2) else .two s (.pipe h1 p1) (.pipe h2 p2) := rfl
      rw [hmT] at hTM
      obtain ⟨W7, hW7⟩ : ∃ W, W = (w3.alloc (.cells #[.int .i64 0, .int .i64 h1, .int .i64 p1] 33)).alloc (.cells #[.int .i64 0, .int .i64 h2, .int .i64 p2] 33) := ⟨_, rfl⟩
      have hb37 : Below w3.heap.size w3 W7 := by rw [hW7]; (repeat (first | (with_reducible assumption) | (with_reducible exact Below.refl _ _) | ((with_reducible refine Below.alloc ?_ ?hsz _); (case hsz => (first | omega | (simp; done) | (simp; omega) | (simp at *; omega)))) | ((with_reducible refine Below.setCell ?_ ?hsz _); (case hsz => (first | omega | (simp; done) | (simp; omega) | (simp at *; omega)))) | (with_reducible refine Below.drew ?_) | (with_reducible refine below_drewN ?_ _) | ((with_reducible refine Below.trans ?_ (Below.mono (by with_reducible assumption) ?hsz)); (case hsz => (first | omega | (simp; done) | (simp; omega) | (simp at *; omega))))))
      have hz7 : W7.heap.size = w3.heap.size + 2 := by rw [hW7]; simp
      have q0 : W7.cell? ⟨w3.heap.size, 0, none⟩ = some (.int .i64 0) := by rw [hW7]; go_simp
      have q1 : W7.cell? ⟨w3.heap.size, 1, none⟩ = some (.int .i64 h1) := by rw [hW7]; go_simp
      have q2 : W7.cell? ⟨w3.heap.size, 2, none⟩ = some (.int .i64 p1) := by rw [hW7]; go_simp
      have r1 : W7.cell? ⟨w3.heap.size + 1, 1, none⟩ = some (.int .i64 h2) := by rw [hW7]; go_simp
      have r2 : W7.cell? ⟨w3.heap.size + 1, 2, none⟩ = some (.int .i64 p2) := by rw [hW7]; go_simp
      have n0 := (hb37.cell (p := ⟨w.heap.size, 0, none⟩) (show w.heap.size < w3.heap.size by omega)).trans m0
      have n1 := (hb37.cell (p := ⟨w.heap.size, 1, none⟩) (show w.heap.size < w3.heap.size by omega)).trans m1
      have n2 := (hb37.cell (p := ⟨w.heap.size, 2, none⟩) (show w.heap.size < w3.heap.size by omega)).trans m2
      have hbw7 : Below w.heap.size w W7 := hbw3.trans (hb37.mono (by omega))
      have HLR := Lib.hid (And.intro (hra3.keep hb37) (And.intro (hrb4.keep hb37) (And.intro hl1 hl2)))
      have l11 : (1 : Nat) ≤ 13 := by omega
      have hz7'' : W7.heap.size = w3.heap.size + 1 + 1 := by omega
      have HTW := Lib.hid hTM
      have HE := Lib.hid (And.intro e1 e2)
      have HK9 := Lib.hid HKD.out
      clear hra3 hrb3 hrb4 hl1 hl2 hcA hcB hTM hmT hb13 hb12 hbw1 m0 m1 m2 hone y1 y2 e1 e2 l11
      have m0 := n0
      have m1 := n1
      have m2 := n2
      clear n0 n1 n2
      cases s with
      | false =>
        have hk1 : kd = 1 := HK9.out.symm
        by_cases hq9 : p1 + p2 ≤ 9
        · have ho : oneB false h1 p1 h2 p2 = true := by simp [oneB, hq9]
          have HMG := Lib.hid (show (Tm.two false a b).merged.marks = [⟨0, min h1 h2, p1 + p2⟩] by rw [HTW.out, if_pos ho]; rfl)
          subst hk1
          clear ho
          by_cases hmn : h1 ≤ h2
          · have hH : min h1 h2 = h1 := by omega
            rw [hH] at HMG
            clear hH
            have HF := World.ownsRow_lit (e := 33) (base := w.heap.size) (size := 3) W7 #[.int .i64 0, .int .i64 h1, .int .i64 (p1 + p2)] 1 (by omega) (by simp [maxLen]) rfl
            rw [hz7''] at HF
            have hfin : Marks (W7.alloc (.cells #[.int .i64 0, .int .i64 h1, .int .i64 (p1 + p2)] 33)) w.heap.size (.slice (some ⟨w3.heap.size + 1 + 1, 0, none⟩) 1 1) [⟨0, h1, p1 + p2⟩] := ⟨HF, by simp [small]⟩
            clear HF
            go_upto_region 11 with fail
            rw [← hW7]
            clear hW7
            go_wp2_with fail
            go_ret
            exact ⟨_, rfl, by rw [HMG.out]; exact hfin, hbw7.alloc (by omega) _⟩
          · have hH : min h1 h2 = h2 := by omega
            rw [hH] at HMG
            clear hH
            have HF := World.ownsRow_lit (e := 33) (base := w.heap.size) (size := 3) W7 #[.int .i64 0, .int .i64 h2, .int .i64 (p1 + p2)] 1 (by omega) (by simp [maxLen]) rfl
            rw [hz7''] at HF
            have hfin : Marks (W7.alloc (.cells #[.int .i64 0, .int .i64 h2, .int .i64 (p1 + p2)] 33)) w.heap.size (.slice (some ⟨w3.heap.size + 1 + 1, 0, none⟩) 1 1) [⟨0, h2, p1 + p2⟩] := ⟨HF, by simp [small]⟩
            clear HF
            go_upto_region 11 with fail
            rw [← hW7]
            clear hW7
            go_wp2_with fail
            go_ret
            exact ⟨_, rfl, by rw [HMG.out]; exact hfin, hbw7.alloc (by omega) _⟩
        · have ho : ¬ oneB false h1 p1 h2 p2 = true := by simp [oneB, hq9]
          have HMG := Lib.hid (show (Tm.two false a b).merged.marks = a.merged.marks ++ b.merged.marks ++ [⟨1, 0, 0⟩] by rw [HTW.out, if_neg ho, HE.out.1, HE.out.2]; rfl)
          subst hk1
          generalize a.merged.marks = L1 at *
          generalize b.merged.marks = L2 at *
          clear ho
          go_upto_region 11 with fail
          rw [← hW7]
          clear hW7
          go_wp2_with fail
          have hBL7 : BL ≤ W7.heap.size := by omega
          clear hz7 hz7'' hb37
          refine wp_region_flowG 7 none [(0, 100), (1, 101), (2, 102), (3, 103), (4, 104), (5, 105), (6, 2)] (fun j x _ wx => brV BL W7.heap.size (.slice (some ⟨ga, 0, none⟩) 1 ca) (.slice (some ⟨gb, 0, none⟩) 1 cb) 1 L1 L2 j x wx) (brR W7.heap.size) (fun _ uu wx => Below BL W7 wx ∧ (uu 2 = undef → Below W7.heap.size W7 wx)) (by kernel_rfl) (by kernel_rfl) rfl ⟨⟨rfl, rfl, rfl, Nat.le_refl _, fun _ _ => rfl⟩, fun _ => ⟨rfl, rfl, rfl, Nat.le_refl _, fun _ _ => rfl⟩⟩ ?_ ?_ ?_ ?_
          · intro i k hi hk hal x u wa wb hR hV
            have hk' : k < 7 := hk
            have hi' : i < 7 := hi
            by_cases i2 : i = 2
            · subst i2
              obtain ⟨row, hg, hrow⟩ := hR
              rcases k with _ | _ | _ | _ | _ | _ | _ | k
              all_goals first | exact hV | (exfalso; revert hal; decide) | (exfalso; omega) | skip
              obtain ⟨g, h1, h2, h3⟩ := hV
              exact ⟨g, h1, h2, heap_grown h3 hg (fun e => by have := hrow g e.symm; omega)⟩
            · by_cases i5 : i = 5
              · subst i5
                rcases k with _ | _ | _ | _ | _ | _ | _ | k
                all_goals first | exact hV | (exfalso; revert hal; decide) | (exfalso; omega)
              · have hbb : Below wa.heap.size wa wb := by
                  unfold brR at hR
                  split at hR
                  · exact absurd rfl i2
                  · exact absurd rfl i5
                  · exact hR
                rcases k with _ | _ | _ | _ | _ | _ | _ | k
                all_goals first
                  | exact hV
                  | (exfalso; omega)
                  | exact Marks.keep hV hbb
                  | (obtain ⟨g, h1, h2, h3⟩ := hV; exact ⟨g, h1, h2, heap_keep h3 hbb⟩)
          · exact fun _ _ _ _ _ _ _ h => h
          · simp (maxSteps := 4000000) only [eachOp, fillF, List.setIfInBounds_toArray, List.set_cons_succ, List.set_cons_zero]
            refine ⟨?_, ?_, ?_, ?_, ?_, ?_, ?_, trivial⟩ <;> intro u uu f wx hC hun huse hd hf <;> (try simp [allV, useOf, Region.binds] at hd)
            · obtain ⟨hBL, hBW⟩ := hC
              have hBz := hBL.size
              go_wp2
              exact ⟨_, rfl, rfl, Below.refl _ _, hBL, fun h => hBW (by simpa using h)⟩
            · obtain ⟨hBL, hBW⟩ := hC
              have hBz := hBL.size
              go_wp2
              exact ⟨_, rfl, rfl, Below.refl _ _, hBL, fun h => hBW (by simpa using h)⟩
            · rw [show u 0 = _ from (by first | exact hd | exact hd.1 | exact hd.2 | exact hd.2.1 | exact hd.2.2 | exact hd.2.2.1 | exact hd.2.2.2 | exact hd.2.2.2.1 | exact hd.2.2.2.2), show u 1 = _ from (by first | exact hd | exact hd.1 | exact hd.2 | exact hd.2.1 | exact hd.2.2 | exact hd.2.2.1 | exact hd.2.2.2 | exact hd.2.2.2.1 | exact hd.2.2.2.2)]
              obtain ⟨hBL, hBW⟩ := hC
              have hBz := hBL.size
              have hW := hBW hun
              have hl := (HLR.out.1.keep hW).1
              rw [HLR.out.2.2.1] at hl
              have hr := (HLR.out.2.1.keep hW).src
              rw [HLR.out.2.2.2] at hr
              refine wpList_append_src rfl _ _ 23 rfl BL 33 i0 _ 3 24 Try.underlying23 hi0 hz0 hz1 hz2 rfl (by omega) _ _ 1 1 _ _ rfl rfl hl hr (by unfold maxLen; omega) (by omega) (by omega) ?_
              intro r7 w7 hown7 hgr7 hat7
              have hfin : Marks w7 BL r7 (L1 ++ L2) := Marks.app hown7 (by rw [HLR.out.2.2.1, HLR.out.2.2.2]) (by unfold small; omega)
              obtain ⟨A7, c7, hv7, -, -, -, -⟩ := hfin.form
              have hlt := HLR.out.1.1.lt
              exact wpList_nil ⟨r7, rfl, hfin, ⟨_, hgr7, fun q hq => (hlt q hq).2⟩, Below.grown hBL hgr7 (by omega) (fun q hq => (hlt q hq).1), fun h => absurd h (by rw [hv7]; simp [undef])⟩
            · obtain ⟨hBL, hBW⟩ := hC
              have hBz := hBL.size
              have e0 := (hBL.cell (p := ⟨w.heap.size, 0, none⟩) hmb).trans m0
              have e1 := (hBL.cell (p := ⟨w.heap.size, 1, none⟩) hmb).trans m1
              have e2 := (hBL.cell (p := ⟨w.heap.size, 2, none⟩) hmb).trans m2
              go_wp2
              exact ⟨_, rfl, rfl, Below.refl _ _, hBL, fun h => hBW (by simpa using h)⟩
            · rw [show u 3 = _ from (by first | exact hd | exact hd.1 | exact hd.2 | exact hd.2.1 | exact hd.2.2 | exact hd.2.2.1 | exact hd.2.2.2 | exact hd.2.2.2.1 | exact hd.2.2.2.2)]
              obtain ⟨hBL, hBW⟩ := hC
              have hBz := hBL.size
              go_wp2
              exact ⟨_, rfl, ⟨_, rfl, by omega, heap_alloc_new _ _⟩, (Below.refl _ _).alloc (Nat.le_refl _) _, hBL.alloc (by omega) _, fun h => (hBW (by simpa using h)).alloc (by omega) _⟩
            · have HU2 : ¬ uu 2 = undef := fun h => by
                have h2 : Marks wx BL (u 2) (L1 ++ L2) := (by first | exact hd.1 | exact hd.2)
                obtain ⟨A7, c7, hv7, -, -, -, -⟩ := h2.form
                have e := huse 2 (by decide)
                rw [h, hv7] at e
                cases e
              obtain ⟨hBL, hBW⟩ := hC
              have hBz := hBL.size
              have h2 : Marks wx BL (u 2) (L1 ++ L2) := (by first | exact hd.1 | exact hd.2)
              obtain ⟨g, h4, hgN, hh⟩ : ∃ g, u 4 = .slice (some ⟨g, 0, none⟩) 1 1 ∧ W7.heap.size ≤ g ∧ wx.heap[g]? = some (.cells #[.int .i64 1, .int .i64 0, .int .i64 0] 33 (0, 0)) := (by first | exact hd.1 | exact hd.2)
              have h2' := h2.1
              rw [List.length_append, HLR.out.2.2.1, HLR.out.2.2.2] at h2'
              rw [h4]
              refine wpList_append_src rfl _ _ 23 rfl BL 33 i0 _ 3 24 Try.underlying23 hi0 hz0 hz1 hz2 rfl (by omega) _ _ (1 + 1) 1 _ _ rfl rfl h2' (lit_src hh rfl (by simp [Value.oneCell'])) (by unfold maxLen; omega) (by omega) (by omega) ?_
              intro r7 w7 hown7 hgr7 hat7
              have hfin : Marks w7 BL r7 (L1 ++ L2 ++ [⟨1, 0, 0⟩]) := Marks.app (us := [⟨1, 0, 0⟩]) hown7 (by rw [List.length_append, HLR.out.2.2.1, HLR.out.2.2.2]; rfl) (by unfold small; omega)
              have hlt := h2.1.lt
              exact wpList_nil ⟨r7, rfl, hfin, trivial, Below.grown hBL hgr7 (by omega) (fun q hq => (hlt q hq).1), fun h => absurd (by simpa using h) HU2⟩
            · obtain ⟨hBL, hBW⟩ := hC
              have hBz := hBL.size
              go_wp2
              exact ⟨_, rfl, hd, Below.refl _ _, hBL, fun h => hBW (by simpa using h)⟩
          · intro u f wx hC hfin
            simp only [fillEnd, fillF, Act.put, List.setIfInBounds_toArray, List.set_cons_succ, List.set_cons_zero]
            have h6 : Marks wx BL (u 6) (L1 ++ L2 ++ [⟨1, 0, 0⟩]) := hfin 6 (by decide) (by decide)
            obtain ⟨hBL, -⟩ := hC
            have hbF : Below w.heap.size w wx := hbw7.trans (hBL.mono (by omega))
            clear hfin
            go_wp2_with fail
            go_ret
            exact ⟨_, rfl, by rw [HMG.out]; exact h6.mono (by omega), hbF⟩
      | true =>
        have hk1 : kd = 2 := HK9.out.symm
        by_cases hp : p1 = p2
        · have hpe : (p1 == p2) = true := by simpa using hp
          by_cases h4 : h1 + h2 ≤ 4
          · have ho : oneB true h1 p1 h2 p2 = true := by simp [oneB, hp, h4]
            have HMG := Lib.hid (show (Tm.two true a b).merged.marks = [⟨0, h1 + h2, p1⟩] by rw [HTW.out, if_pos ho]; rfl)
            subst hk1
            clear ho hp
            have HF := World.ownsRow_lit (e := 33) (base := w.heap.size) (size := 3) W7 #[.int .i64 0, .int .i64 (h1 + h2), .int .i64 (p1)] 1 (by omega) (by simp [maxLen]) rfl
            rw [hz7''] at HF
            have hfin : Marks (W7.alloc (.cells #[.int .i64 0, .int .i64 (h1 + h2), .int .i64 (p1)] 33)) w.heap.size (.slice (some ⟨w3.heap.size + 1 + 1, 0, none⟩) 1 1) [⟨0, h1 + h2, p1⟩] := ⟨HF, by simp [small]⟩
            clear HF
            go_upto_region 11 with fail
            rw [← hW7]
            clear hW7
            go_wp2_with fail
            go_ret
            exact ⟨_, rfl, by rw [HMG.out]; exact hfin, hbw7.alloc (by omega) _⟩
          · have ho : ¬ oneB true h1 p1 h2 p2 = true := by simp [oneB, h4]
            have HMG := Lib.hid (show (Tm.two true a b).merged.marks = a.merged.marks ++ b.merged.marks ++ [⟨2, 0, 0⟩] by rw [HTW.out, if_neg ho, HE.out.1, HE.out.2]; rfl)
            subst hk1
            generalize a.merged.marks = L1 at *
            generalize b.merged.marks = L2 at *
            clear ho hp
            go_upto_region 11 with fail
            rw [← hW7]
            clear hW7
            go_wp2_with fail
            have hBL7 : BL ≤ W7.heap.size := by omega
            clear hz7 hz7'' hb37
            refine wp_region_flowG 7 none [(0, 100), (1, 101), (2, 102), (3, 103), (4, 104), (5, 105), (6, 2)] (fun j x _ wx => brV BL W7.heap.size (.slice (some ⟨ga, 0, none⟩) 1 ca) (.slice (some ⟨gb, 0, none⟩) 1 cb) 2 L1 L2 j x wx) (brR W7.heap.size) (fun _ uu wx => Below BL W7 wx ∧ (uu 2 = undef → Below W7.heap.size W7 wx)) (by kernel_rfl) (by kernel_rfl) rfl ⟨⟨rfl, rfl, rfl, Nat.le_refl _, fun _ _ => rfl⟩, fun _ => ⟨rfl, rfl, rfl, Nat.le_refl _, fun _ _ => rfl⟩⟩ ?_ ?_ ?_ ?_
            · intro i k hi hk hal x u wa wb hR hV
              have hk' : k < 7 := hk
              have hi' : i < 7 := hi
              by_cases i2 : i = 2
              · subst i2
                obtain ⟨row, hg, hrow⟩ := hR
                rcases k with _ | _ | _ | _ | _ | _ | _ | k
                all_goals first | exact hV | (exfalso; revert hal; decide) | (exfalso; omega) | skip
                obtain ⟨g, h1, h2, h3⟩ := hV
                exact ⟨g, h1, h2, heap_grown h3 hg (fun e => by have := hrow g e.symm; omega)⟩
              · by_cases i5 : i = 5
                · subst i5
                  rcases k with _ | _ | _ | _ | _ | _ | _ | k
                  all_goals first | exact hV | (exfalso; revert hal; decide) | (exfalso; omega)
                · have hbb : Below wa.heap.size wa wb := by
                    unfold brR at hR
                    split at hR
                    · exact absurd rfl i2
                    · exact absurd rfl i5
                    · exact hR
                  rcases k with _ | _ | _ | _ | _ | _ | _ | k
                  all_goals first
                    | exact hV
                    | (exfalso; omega)
                    | exact Marks.keep hV hbb
                    | (obtain ⟨g, h1, h2, h3⟩ := hV; exact ⟨g, h1, h2, heap_keep h3 hbb⟩)
            · exact fun _ _ _ _ _ _ _ h => h
            · simp (maxSteps := 4000000) only [eachOp, fillF, List.setIfInBounds_toArray, List.set_cons_succ, List.set_cons_zero]
              refine ⟨?_, ?_, ?_, ?_, ?_, ?_, ?_, trivial⟩ <;> intro u uu f wx hC hun huse hd hf <;> (try simp [allV, useOf, Region.binds] at hd)
              · obtain ⟨hBL, hBW⟩ := hC
                have hBz := hBL.size
                go_wp2
                exact ⟨_, rfl, rfl, Below.refl _ _, hBL, fun h => hBW (by simpa using h)⟩
              · obtain ⟨hBL, hBW⟩ := hC
                have hBz := hBL.size
                go_wp2
                exact ⟨_, rfl, rfl, Below.refl _ _, hBL, fun h => hBW (by simpa using h)⟩
              · rw [show u 0 = _ from (by first | exact hd | exact hd.1 | exact hd.2 | exact hd.2.1 | exact hd.2.2 | exact hd.2.2.1 | exact hd.2.2.2 | exact hd.2.2.2.1 | exact hd.2.2.2.2), show u 1 = _ from (by first | exact hd | exact hd.1 | exact hd.2 | exact hd.2.1 | exact hd.2.2 | exact hd.2.2.1 | exact hd.2.2.2 | exact hd.2.2.2.1 | exact hd.2.2.2.2)]
                obtain ⟨hBL, hBW⟩ := hC
                have hBz := hBL.size
                have hW := hBW hun
                have hl := (HLR.out.1.keep hW).1
                rw [HLR.out.2.2.1] at hl
                have hr := (HLR.out.2.1.keep hW).src
                rw [HLR.out.2.2.2] at hr
                refine wpList_append_src rfl _ _ 23 rfl BL 33 i0 _ 3 24 Try.underlying23 hi0 hz0 hz1 hz2 rfl (by omega) _ _ 1 1 _ _ rfl rfl hl hr (by unfold maxLen; omega) (by omega) (by omega) ?_
                intro r7 w7 hown7 hgr7 hat7
                have hfin : Marks w7 BL r7 (L1 ++ L2) := Marks.app hown7 (by rw [HLR.out.2.2.1, HLR.out.2.2.2]) (by unfold small; omega)
                obtain ⟨A7, c7, hv7, -, -, -, -⟩ := hfin.form
                have hlt := HLR.out.1.1.lt
                exact wpList_nil ⟨r7, rfl, hfin, ⟨_, hgr7, fun q hq => (hlt q hq).2⟩, Below.grown hBL hgr7 (by omega) (fun q hq => (hlt q hq).1), fun h => absurd h (by rw [hv7]; simp [undef])⟩
              · obtain ⟨hBL, hBW⟩ := hC
                have hBz := hBL.size
                have e0 := (hBL.cell (p := ⟨w.heap.size, 0, none⟩) hmb).trans m0
                have e1 := (hBL.cell (p := ⟨w.heap.size, 1, none⟩) hmb).trans m1
                have e2 := (hBL.cell (p := ⟨w.heap.size, 2, none⟩) hmb).trans m2
                go_wp2
                exact ⟨_, rfl, rfl, Below.refl _ _, hBL, fun h => hBW (by simpa using h)⟩
              · rw [show u 3 = _ from (by first | exact hd | exact hd.1 | exact hd.2 | exact hd.2.1 | exact hd.2.2 | exact hd.2.2.1 | exact hd.2.2.2 | exact hd.2.2.2.1 | exact hd.2.2.2.2)]
                obtain ⟨hBL, hBW⟩ := hC
                have hBz := hBL.size
                go_wp2
                exact ⟨_, rfl, ⟨_, rfl, by omega, heap_alloc_new _ _⟩, (Below.refl _ _).alloc (Nat.le_refl _) _, hBL.alloc (by omega) _, fun h => (hBW (by simpa using h)).alloc (by omega) _⟩
              · have HU2 : ¬ uu 2 = undef := fun h => by
                  have h2 : Marks wx BL (u 2) (L1 ++ L2) := (by first | exact hd.1 | exact hd.2)
                  obtain ⟨A7, c7, hv7, -, -, -, -⟩ := h2.form
                  have e := huse 2 (by decide)
                  rw [h, hv7] at e
                  cases e
                obtain ⟨hBL, hBW⟩ := hC
                have hBz := hBL.size
                have h2 : Marks wx BL (u 2) (L1 ++ L2) := (by first | exact hd.1 | exact hd.2)
                obtain ⟨g, h4, hgN, hh⟩ : ∃ g, u 4 = .slice (some ⟨g, 0, none⟩) 1 1 ∧ W7.heap.size ≤ g ∧ wx.heap[g]? = some (.cells #[.int .i64 2, .int .i64 0, .int .i64 0] 33 (0, 0)) := (by first | exact hd.1 | exact hd.2)
                have h2' := h2.1
                rw [List.length_append, HLR.out.2.2.1, HLR.out.2.2.2] at h2'
                rw [h4]
                refine wpList_append_src rfl _ _ 23 rfl BL 33 i0 _ 3 24 Try.underlying23 hi0 hz0 hz1 hz2 rfl (by omega) _ _ (1 + 1) 1 _ _ rfl rfl h2' (lit_src hh rfl (by simp [Value.oneCell'])) (by unfold maxLen; omega) (by omega) (by omega) ?_
                intro r7 w7 hown7 hgr7 hat7
                have hfin : Marks w7 BL r7 (L1 ++ L2 ++ [⟨2, 0, 0⟩]) := Marks.app (us := [⟨2, 0, 0⟩]) hown7 (by rw [List.length_append, HLR.out.2.2.1, HLR.out.2.2.2]; rfl) (by unfold small; omega)
                have hlt := h2.1.lt
                exact wpList_nil ⟨r7, rfl, hfin, trivial, Below.grown hBL hgr7 (by omega) (fun q hq => (hlt q hq).1), fun h => absurd (by simpa using h) HU2⟩
              · obtain ⟨hBL, hBW⟩ := hC
                have hBz := hBL.size
                go_wp2
                exact ⟨_, rfl, hd, Below.refl _ _, hBL, fun h => hBW (by simpa using h)⟩
            · intro u f wx hC hfin
              simp only [fillEnd, fillF, Act.put, List.setIfInBounds_toArray, List.set_cons_succ, List.set_cons_zero]
              have h6 : Marks wx BL (u 6) (L1 ++ L2 ++ [⟨2, 0, 0⟩]) := hfin 6 (by decide) (by decide)
              obtain ⟨hBL, -⟩ := hC
              have hbF : Below w.heap.size w wx := hbw7.trans (hBL.mono (by omega))
              clear hfin
              go_wp2_with fail
              go_ret
              exact ⟨_, rfl, by rw [HMG.out]; exact h6.mono (by omega), hbF⟩
        · have hpe : (p1 == p2) = false := by simpa using hp
          have ho : ¬ oneB true h1 p1 h2 p2 = true := by simp [oneB, hp]
          have HMG := Lib.hid (show (Tm.two true a b).merged.marks = a.merged.marks ++ b.merged.marks ++ [⟨2, 0, 0⟩] by rw [HTW.out, if_neg ho, HE.out.1, HE.out.2]; rfl)
          subst hk1
          generalize a.merged.marks = L1 at *
          generalize b.merged.marks = L2 at *
          clear ho hp
          go_upto_region 11 with fail
          rw [← hW7]
          clear hW7
          go_wp2_with fail
          have hBL7 : BL ≤ W7.heap.size := by omega
          clear hz7 hz7'' hb37
          refine wp_region_flowG 7 none [(0, 100), (1, 101), (2, 102), (3, 103), (4, 104), (5, 105), (6, 2)] (fun j x _ wx => brV BL W7.heap.size (.slice (some ⟨ga, 0, none⟩) 1 ca) (.slice (some ⟨gb, 0, none⟩) 1 cb) 2 L1 L2 j x wx) (brR W7.heap.size) (fun _ uu wx => Below BL W7 wx ∧ (uu 2 = undef → Below W7.heap.size W7 wx)) (by kernel_rfl) (by kernel_rfl) rfl ⟨⟨rfl, rfl, rfl, Nat.le_refl _, fun _ _ => rfl⟩, fun _ => ⟨rfl, rfl, rfl, Nat.le_refl _, fun _ _ => rfl⟩⟩ ?_ ?_ ?_ ?_
          · intro i k hi hk hal x u wa wb hR hV
            have hk' : k < 7 := hk
            have hi' : i < 7 := hi
            by_cases i2 : i = 2
            · subst i2
              obtain ⟨row, hg, hrow⟩ := hR
              rcases k with _ | _ | _ | _ | _ | _ | _ | k
              all_goals first | exact hV | (exfalso; revert hal; decide) | (exfalso; omega) | skip
              obtain ⟨g, h1, h2, h3⟩ := hV
              exact ⟨g, h1, h2, heap_grown h3 hg (fun e => by have := hrow g e.symm; omega)⟩
            · by_cases i5 : i = 5
              · subst i5
                rcases k with _ | _ | _ | _ | _ | _ | _ | k
                all_goals first | exact hV | (exfalso; revert hal; decide) | (exfalso; omega)
              · have hbb : Below wa.heap.size wa wb := by
                  unfold brR at hR
                  split at hR
                  · exact absurd rfl i2
                  · exact absurd rfl i5
                  · exact hR
                rcases k with _ | _ | _ | _ | _ | _ | _ | k
                all_goals first
                  | exact hV
                  | (exfalso; omega)
                  | exact Marks.keep hV hbb
                  | (obtain ⟨g, h1, h2, h3⟩ := hV; exact ⟨g, h1, h2, heap_keep h3 hbb⟩)
          · exact fun _ _ _ _ _ _ _ h => h
          · simp (maxSteps := 4000000) only [eachOp, fillF, List.setIfInBounds_toArray, List.set_cons_succ, List.set_cons_zero]
            refine ⟨?_, ?_, ?_, ?_, ?_, ?_, ?_, trivial⟩ <;> intro u uu f wx hC hun huse hd hf <;> (try simp [allV, useOf, Region.binds] at hd)
            · obtain ⟨hBL, hBW⟩ := hC
              have hBz := hBL.size
              go_wp2
              exact ⟨_, rfl, rfl, Below.refl _ _, hBL, fun h => hBW (by simpa using h)⟩
            · obtain ⟨hBL, hBW⟩ := hC
              have hBz := hBL.size
              go_wp2
              exact ⟨_, rfl, rfl, Below.refl _ _, hBL, fun h => hBW (by simpa using h)⟩
            · rw [show u 0 = _ from (by first | exact hd | exact hd.1 | exact hd.2 | exact hd.2.1 | exact hd.2.2 | exact hd.2.2.1 | exact hd.2.2.2 | exact hd.2.2.2.1 | exact hd.2.2.2.2), show u 1 = _ from (by first | exact hd | exact hd.1 | exact hd.2 | exact hd.2.1 | exact hd.2.2 | exact hd.2.2.1 | exact hd.2.2.2 | exact hd.2.2.2.1 | exact hd.2.2.2.2)]
              obtain ⟨hBL, hBW⟩ := hC
              have hBz := hBL.size
              have hW := hBW hun
              have hl := (HLR.out.1.keep hW).1
              rw [HLR.out.2.2.1] at hl
              have hr := (HLR.out.2.1.keep hW).src
              rw [HLR.out.2.2.2] at hr
              refine wpList_append_src rfl _ _ 23 rfl BL 33 i0 _ 3 24 Try.underlying23 hi0 hz0 hz1 hz2 rfl (by omega) _ _ 1 1 _ _ rfl rfl hl hr (by unfold maxLen; omega) (by omega) (by omega) ?_
              intro r7 w7 hown7 hgr7 hat7
              have hfin : Marks w7 BL r7 (L1 ++ L2) := Marks.app hown7 (by rw [HLR.out.2.2.1, HLR.out.2.2.2]) (by unfold small; omega)
              obtain ⟨A7, c7, hv7, -, -, -, -⟩ := hfin.form
              have hlt := HLR.out.1.1.lt
              exact wpList_nil ⟨r7, rfl, hfin, ⟨_, hgr7, fun q hq => (hlt q hq).2⟩, Below.grown hBL hgr7 (by omega) (fun q hq => (hlt q hq).1), fun h => absurd h (by rw [hv7]; simp [undef])⟩
            · obtain ⟨hBL, hBW⟩ := hC
              have hBz := hBL.size
              have e0 := (hBL.cell (p := ⟨w.heap.size, 0, none⟩) hmb).trans m0
              have e1 := (hBL.cell (p := ⟨w.heap.size, 1, none⟩) hmb).trans m1
              have e2 := (hBL.cell (p := ⟨w.heap.size, 2, none⟩) hmb).trans m2
              go_wp2
              exact ⟨_, rfl, rfl, Below.refl _ _, hBL, fun h => hBW (by simpa using h)⟩
            · rw [show u 3 = _ from (by first | exact hd | exact hd.1 | exact hd.2 | exact hd.2.1 | exact hd.2.2 | exact hd.2.2.1 | exact hd.2.2.2 | exact hd.2.2.2.1 | exact hd.2.2.2.2)]
              obtain ⟨hBL, hBW⟩ := hC
              have hBz := hBL.size
              go_wp2
              exact ⟨_, rfl, ⟨_, rfl, by omega, heap_alloc_new _ _⟩, (Below.refl _ _).alloc (Nat.le_refl _) _, hBL.alloc (by omega) _, fun h => (hBW (by simpa using h)).alloc (by omega) _⟩
            · have HU2 : ¬ uu 2 = undef := fun h => by
                have h2 : Marks wx BL (u 2) (L1 ++ L2) := (by first | exact hd.1 | exact hd.2)
                obtain ⟨A7, c7, hv7, -, -, -, -⟩ := h2.form
                have e := huse 2 (by decide)
                rw [h, hv7] at e
                cases e
              obtain ⟨hBL, hBW⟩ := hC
              have hBz := hBL.size
              have h2 : Marks wx BL (u 2) (L1 ++ L2) := (by first | exact hd.1 | exact hd.2)
              obtain ⟨g, h4, hgN, hh⟩ : ∃ g, u 4 = .slice (some ⟨g, 0, none⟩) 1 1 ∧ W7.heap.size ≤ g ∧ wx.heap[g]? = some (.cells #[.int .i64 2, .int .i64 0, .int .i64 0] 33 (0, 0)) := (by first | exact hd.1 | exact hd.2)
              have h2' := h2.1
              rw [List.length_append, HLR.out.2.2.1, HLR.out.2.2.2] at h2'
              rw [h4]
              refine wpList_append_src rfl _ _ 23 rfl BL 33 i0 _ 3 24 Try.underlying23 hi0 hz0 hz1 hz2 rfl (by omega) _ _ (1 + 1) 1 _ _ rfl rfl h2' (lit_src hh rfl (by simp [Value.oneCell'])) (by unfold maxLen; omega) (by omega) (by omega) ?_
              intro r7 w7 hown7 hgr7 hat7
              have hfin : Marks w7 BL r7 (L1 ++ L2 ++ [⟨2, 0, 0⟩]) := Marks.app (us := [⟨2, 0, 0⟩]) hown7 (by rw [List.length_append, HLR.out.2.2.1, HLR.out.2.2.2]; rfl) (by unfold small; omega)
              have hlt := h2.1.lt
              exact wpList_nil ⟨r7, rfl, hfin, trivial, Below.grown hBL hgr7 (by omega) (fun q hq => (hlt q hq).1), fun h => absurd (by simpa using h) HU2⟩
            · obtain ⟨hBL, hBW⟩ := hC
              have hBz := hBL.size
              go_wp2
              exact ⟨_, rfl, hd, Below.refl _ _, hBL, fun h => hBW (by simpa using h)⟩
          · intro u f wx hC hfin
            simp only [fillEnd, fillF, Act.put, List.setIfInBounds_toArray, List.set_cons_succ, List.set_cons_zero]
            have h6 : Marks wx BL (u 6) (L1 ++ L2 ++ [⟨2, 0, 0⟩]) := hfin 6 (by decide) (by decide)
            obtain ⟨hBL, -⟩ := hC
            have hbF : Below w.heap.size w wx := hbw7.trans (hBL.mono (by omega))
            clear hfin
            go_wp2_with fail
            go_ret
            exact ⟨_, rfl, by rw [HMG.out]; exact h6.mono (by omega), hbF⟩
    · have HMG := Lib.hid (show (Tm.two s a b).merged.marks = a.merged.marks ++ b.merged.marks ++ [⟨kd, 0, 0⟩] by rw [hTM, merge_two s hone, ← HKD.out]; simp [Tm.marks])
      have HLR := Lib.hid (And.intro hra3 (And.intro hrb4 (And.intro hl1 hl2)))
      rw [hl1, hl2] at hone
      have hbw7 := hbw3
      generalize a.merged.marks = L1 at *
      generalize b.merged.marks = L2 at *
      clear hra3 hrb3 hrb4 hl1 hl2 hcA hcB hTM hb13 hb12 hbw1
      by_cases x1 : l1 = 1
      · have x2 : ((l2 : Int) == 1) = false := by rw [beq_eq_false_iff_ne]; omega
        have x3 : ((l1 : Int) == 1) = true := by rw [x1]; rfl
        have x4 : l1 ≤ 13 := hla
        clear hone x1
        go_wp2_with fail
        refine wp_region_flowG 7 none [(0, 100), (1, 101), (2, 102), (3, 103), (4, 104), (5, 105), (6, 2)] (fun j x _ wx => brV BL w3.heap.size (.slice Aa l1 ca) (.slice Ab l2 cb) kd L1 L2 j x wx) (brR w3.heap.size) (fun _ uu wx => Below BL w3 wx ∧ (uu 2 = undef → Below w3.heap.size w3 wx)) (by kernel_rfl) (by kernel_rfl) rfl ⟨⟨rfl, rfl, rfl, Nat.le_refl _, fun _ _ => rfl⟩, fun _ => ⟨rfl, rfl, rfl, Nat.le_refl _, fun _ _ => rfl⟩⟩ ?_ ?_ ?_ ?_
        · intro i k hi hk hal x u wa wb hR hV
          have hk' : k < 7 := hk
          have hi' : i < 7 := hi
          by_cases i2 : i = 2
          · subst i2
            obtain ⟨row, hg, hrow⟩ := hR
            rcases k with _ | _ | _ | _ | _ | _ | _ | k
            all_goals first | exact hV | (exfalso; revert hal; decide) | (exfalso; omega) | skip
            obtain ⟨g, h1, h2, h3⟩ := hV
            exact ⟨g, h1, h2, heap_grown h3 hg (fun e => by have := hrow g e.symm; omega)⟩
          · by_cases i5 : i = 5
            · subst i5
              rcases k with _ | _ | _ | _ | _ | _ | _ | k
              all_goals first | exact hV | (exfalso; revert hal; decide) | (exfalso; omega)
            · have hbb : Below wa.heap.size wa wb := by
                unfold brR at hR
                split at hR
                · exact absurd rfl i2
                · exact absurd rfl i5
                · exact hR
              rcases k with _ | _ | _ | _ | _ | _ | _ | k
              all_goals first
                | exact hV
                | (exfalso; omega)
                | exact Marks.keep hV hbb
                | (obtain ⟨g, h1, h2, h3⟩ := hV; exact ⟨g, h1, h2, heap_keep h3 hbb⟩)
        · exact fun _ _ _ _ _ _ _ h => h
        · simp (maxSteps := 4000000) only [eachOp, fillF, List.setIfInBounds_toArray, List.set_cons_succ, List.set_cons_zero]
          refine ⟨?_, ?_, ?_, ?_, ?_, ?_, ?_, trivial⟩ <;> intro u uu f wx hC hun huse hd hf <;> (try simp [allV, useOf, Region.binds] at hd)
          · obtain ⟨hBL, hBW⟩ := hC
            have hBz := hBL.size
            go_wp2
            exact ⟨_, rfl, rfl, Below.refl _ _, hBL, fun h => hBW (by simpa using h)⟩
          · obtain ⟨hBL, hBW⟩ := hC
            have hBz := hBL.size
            go_wp2
            exact ⟨_, rfl, rfl, Below.refl _ _, hBL, fun h => hBW (by simpa using h)⟩
          · rw [show u 0 = _ from (by first | exact hd | exact hd.1 | exact hd.2 | exact hd.2.1 | exact hd.2.2 | exact hd.2.2.1 | exact hd.2.2.2 | exact hd.2.2.2.1 | exact hd.2.2.2.2), show u 1 = _ from (by first | exact hd | exact hd.1 | exact hd.2 | exact hd.2.1 | exact hd.2.2 | exact hd.2.2.1 | exact hd.2.2.2 | exact hd.2.2.2.1 | exact hd.2.2.2.2)]
            obtain ⟨hBL, hBW⟩ := hC
            have hBz := hBL.size
            have hW := hBW hun
            have hl := (HLR.out.1.keep hW).1
            rw [HLR.out.2.2.1] at hl
            have hr := (HLR.out.2.1.keep hW).src
            rw [HLR.out.2.2.2] at hr
            refine wpList_append_src rfl _ _ 23 rfl BL 33 i0 _ 3 24 Try.underlying23 hi0 hz0 hz1 hz2 rfl (by omega) _ _ l1 l2 _ _ rfl rfl hl hr (by unfold maxLen; omega) (by omega) (by omega) ?_
            intro r7 w7 hown7 hgr7 hat7
            have hfin : Marks w7 BL r7 (L1 ++ L2) := Marks.app hown7 (by rw [HLR.out.2.2.1, HLR.out.2.2.2]) (by unfold small; omega)
            obtain ⟨A7, c7, hv7, -, -, -, -⟩ := hfin.form
            have hlt := HLR.out.1.1.lt
            exact wpList_nil ⟨r7, rfl, hfin, ⟨_, hgr7, fun q hq => (hlt q hq).2⟩, Below.grown hBL hgr7 (by omega) (fun q hq => (hlt q hq).1), fun h => absurd h (by rw [hv7]; simp [undef])⟩
          · obtain ⟨hBL, hBW⟩ := hC
            have hBz := hBL.size
            have e0 := (hBL.cell (p := ⟨w.heap.size, 0, none⟩) hmb).trans m0
            have e1 := (hBL.cell (p := ⟨w.heap.size, 1, none⟩) hmb).trans m1
            have e2 := (hBL.cell (p := ⟨w.heap.size, 2, none⟩) hmb).trans m2
            go_wp2
            exact ⟨_, rfl, rfl, Below.refl _ _, hBL, fun h => hBW (by simpa using h)⟩
          · rw [show u 3 = _ from (by first | exact hd | exact hd.1 | exact hd.2 | exact hd.2.1 | exact hd.2.2 | exact hd.2.2.1 | exact hd.2.2.2 | exact hd.2.2.2.1 | exact hd.2.2.2.2)]
            obtain ⟨hBL, hBW⟩ := hC
            have hBz := hBL.size
            go_wp2
            exact ⟨_, rfl, ⟨_, rfl, by omega, heap_alloc_new _ _⟩, (Below.refl _ _).alloc (Nat.le_refl _) _, hBL.alloc (by omega) _, fun h => (hBW (by simpa using h)).alloc (by omega) _⟩
          · have HU2 : ¬ uu 2 = undef := fun h => by
              have h2 : Marks wx BL (u 2) (L1 ++ L2) := (by first | exact hd.1 | exact hd.2)
              obtain ⟨A7, c7, hv7, -, -, -, -⟩ := h2.form
              have e := huse 2 (by decide)
              rw [h, hv7] at e
              cases e
            obtain ⟨hBL, hBW⟩ := hC
            have hBz := hBL.size
            have h2 : Marks wx BL (u 2) (L1 ++ L2) := (by first | exact hd.1 | exact hd.2)
            obtain ⟨g, h4, hgN, hh⟩ : ∃ g, u 4 = .slice (some ⟨g, 0, none⟩) 1 1 ∧ w3.heap.size ≤ g ∧ wx.heap[g]? = some (.cells #[.int .i64 kd, .int .i64 0, .int .i64 0] 33 (0, 0)) := (by first | exact hd.1 | exact hd.2)
            have h2' := h2.1
            rw [List.length_append, HLR.out.2.2.1, HLR.out.2.2.2] at h2'
            rw [h4]
            refine wpList_append_src rfl _ _ 23 rfl BL 33 i0 _ 3 24 Try.underlying23 hi0 hz0 hz1 hz2 rfl (by omega) _ _ (l1 + l2) 1 _ _ rfl rfl h2' (lit_src hh rfl (by simp [Value.oneCell'])) (by unfold maxLen; omega) (by omega) (by omega) ?_
            intro r7 w7 hown7 hgr7 hat7
            have hfin : Marks w7 BL r7 (L1 ++ L2 ++ [⟨kd, 0, 0⟩]) := Marks.app (us := [⟨kd, 0, 0⟩]) hown7 (by rw [List.length_append, HLR.out.2.2.1, HLR.out.2.2.2]; rfl) (by unfold small; omega)
            have hlt := h2.1.lt
            exact wpList_nil ⟨r7, rfl, hfin, trivial, Below.grown hBL hgr7 (by omega) (fun q hq => (hlt q hq).1), fun h => absurd (by simpa using h) HU2⟩
          · obtain ⟨hBL, hBW⟩ := hC
            have hBz := hBL.size
            go_wp2
            exact ⟨_, rfl, hd, Below.refl _ _, hBL, fun h => hBW (by simpa using h)⟩
        · intro u f wx hC hfin
          simp only [fillEnd, fillF, Act.put, List.setIfInBounds_toArray, List.set_cons_succ, List.set_cons_zero]
          have h6 : Marks wx BL (u 6) (L1 ++ L2 ++ [⟨kd, 0, 0⟩]) := hfin 6 (by decide) (by decide)
          obtain ⟨hBL, -⟩ := hC
          have hbF : Below w.heap.size w wx := hbw7.trans (hBL.mono (by omega))
          clear hfin
          go_wp2_with fail
          go_ret
          exact ⟨_, rfl, by rw [HMG.out]; exact h6.mono (by omega), hbF⟩
      · have x3 : ((l1 : Int) == 1) = false := by rw [beq_eq_false_iff_ne]; omega
        clear hone x1
        go_wp2_with fail
        refine wp_region_flowG 7 none [(0, 100), (1, 101), (2, 102), (3, 103), (4, 104), (5, 105), (6, 2)] (fun j x _ wx => brV BL w3.heap.size (.slice Aa l1 ca) (.slice Ab l2 cb) kd L1 L2 j x wx) (brR w3.heap.size) (fun _ uu wx => Below BL w3 wx ∧ (uu 2 = undef → Below w3.heap.size w3 wx)) (by kernel_rfl) (by kernel_rfl) rfl ⟨⟨rfl, rfl, rfl, Nat.le_refl _, fun _ _ => rfl⟩, fun _ => ⟨rfl, rfl, rfl, Nat.le_refl _, fun _ _ => rfl⟩⟩ ?_ ?_ ?_ ?_
        · intro i k hi hk hal x u wa wb hR hV
          have hk' : k < 7 := hk
          have hi' : i < 7 := hi
          by_cases i2 : i = 2
          · subst i2
            obtain ⟨row, hg, hrow⟩ := hR
            rcases k with _ | _ | _ | _ | _ | _ | _ | k
            all_goals first | exact hV | (exfalso; revert hal; decide) | (exfalso; omega) | skip
            obtain ⟨g, h1, h2, h3⟩ := hV
            exact ⟨g, h1, h2, heap_grown h3 hg (fun e => by have := hrow g e.symm; omega)⟩
          · by_cases i5 : i = 5
            · subst i5
              rcases k with _ | _ | _ | _ | _ | _ | _ | k
              all_goals first | exact hV | (exfalso; revert hal; decide) | (exfalso; omega)
            · have hbb : Below wa.heap.size wa wb := by
                unfold brR at hR
                split at hR
                · exact absurd rfl i2
                · exact absurd rfl i5
                · exact hR
              rcases k with _ | _ | _ | _ | _ | _ | _ | k
              all_goals first
                | exact hV
                | (exfalso; omega)
                | exact Marks.keep hV hbb
                | (obtain ⟨g, h1, h2, h3⟩ := hV; exact ⟨g, h1, h2, heap_keep h3 hbb⟩)
        · exact fun _ _ _ _ _ _ _ h => h
        · simp (maxSteps := 4000000) only [eachOp, fillF, List.setIfInBounds_toArray, List.set_cons_succ, List.set_cons_zero]
          refine ⟨?_, ?_, ?_, ?_, ?_, ?_, ?_, trivial⟩ <;> intro u uu f wx hC hun huse hd hf <;> (try simp [allV, useOf, Region.binds] at hd)
          · obtain ⟨hBL, hBW⟩ := hC
            have hBz := hBL.size
            go_wp2
            exact ⟨_, rfl, rfl, Below.refl _ _, hBL, fun h => hBW (by simpa using h)⟩
          · obtain ⟨hBL, hBW⟩ := hC
            have hBz := hBL.size
            go_wp2
            exact ⟨_, rfl, rfl, Below.refl _ _, hBL, fun h => hBW (by simpa using h)⟩
          · rw [show u 0 = _ from (by first | exact hd | exact hd.1 | exact hd.2 | exact hd.2.1 | exact hd.2.2 | exact hd.2.2.1 | exact hd.2.2.2 | exact hd.2.2.2.1 | exact hd.2.2.2.2), show u 1 = _ from (by first | exact hd | exact hd.1 | exact hd.2 | exact hd.2.1 | exact hd.2.2 | exact hd.2.2.1 | exact hd.2.2.2 | exact hd.2.2.2.1 | exact hd.2.2.2.2)]
            obtain ⟨hBL, hBW⟩ := hC
            have hBz := hBL.size
            have hW := hBW hun
            have hl := (HLR.out.1.keep hW).1
            rw [HLR.out.2.2.1] at hl
            have hr := (HLR.out.2.1.keep hW).src
            rw [HLR.out.2.2.2] at hr
            refine wpList_append_src rfl _ _ 23 rfl BL 33 i0 _ 3 24 Try.underlying23 hi0 hz0 hz1 hz2 rfl (by omega) _ _ l1 l2 _ _ rfl rfl hl hr (by unfold maxLen; omega) (by omega) (by omega) ?_
            intro r7 w7 hown7 hgr7 hat7
            have hfin : Marks w7 BL r7 (L1 ++ L2) := Marks.app hown7 (by rw [HLR.out.2.2.1, HLR.out.2.2.2]) (by unfold small; omega)
            obtain ⟨A7, c7, hv7, -, -, -, -⟩ := hfin.form
            have hlt := HLR.out.1.1.lt
            exact wpList_nil ⟨r7, rfl, hfin, ⟨_, hgr7, fun q hq => (hlt q hq).2⟩, Below.grown hBL hgr7 (by omega) (fun q hq => (hlt q hq).1), fun h => absurd h (by rw [hv7]; simp [undef])⟩
          · obtain ⟨hBL, hBW⟩ := hC
            have hBz := hBL.size
            have e0 := (hBL.cell (p := ⟨w.heap.size, 0, none⟩) hmb).trans m0
            have e1 := (hBL.cell (p := ⟨w.heap.size, 1, none⟩) hmb).trans m1
            have e2 := (hBL.cell (p := ⟨w.heap.size, 2, none⟩) hmb).trans m2
            go_wp2
            exact ⟨_, rfl, rfl, Below.refl _ _, hBL, fun h => hBW (by simpa using h)⟩
          · rw [show u 3 = _ from (by first | exact hd | exact hd.1 | exact hd.2 | exact hd.2.1 | exact hd.2.2 | exact hd.2.2.1 | exact hd.2.2.2 | exact hd.2.2.2.1 | exact hd.2.2.2.2)]
            obtain ⟨hBL, hBW⟩ := hC
            have hBz := hBL.size
            go_wp2
            exact ⟨_, rfl, ⟨_, rfl, by omega, heap_alloc_new _ _⟩, (Below.refl _ _).alloc (Nat.le_refl _) _, hBL.alloc (by omega) _, fun h => (hBW (by simpa using h)).alloc (by omega) _⟩
          · have HU2 : ¬ uu 2 = undef := fun h => by
              have h2 : Marks wx BL (u 2) (L1 ++ L2) := (by first | exact hd.1 | exact hd.2)
              obtain ⟨A7, c7, hv7, -, -, -, -⟩ := h2.form
              have e := huse 2 (by decide)
              rw [h, hv7] at e
              cases e
            obtain ⟨hBL, hBW⟩ := hC
            have hBz := hBL.size
            have h2 : Marks wx BL (u 2) (L1 ++ L2) := (by first | exact hd.1 | exact hd.2)
            obtain ⟨g, h4, hgN, hh⟩ : ∃ g, u 4 = .slice (some ⟨g, 0, none⟩) 1 1 ∧ w3.heap.size ≤ g ∧ wx.heap[g]? = some (.cells #[.int .i64 kd, .int .i64 0, .int .i64 0] 33 (0, 0)) := (by first | exact hd.1 | exact hd.2)
            have h2' := h2.1
            rw [List.length_append, HLR.out.2.2.1, HLR.out.2.2.2] at h2'
            rw [h4]
            refine wpList_append_src rfl _ _ 23 rfl BL 33 i0 _ 3 24 Try.underlying23 hi0 hz0 hz1 hz2 rfl (by omega) _ _ (l1 + l2) 1 _ _ rfl rfl h2' (lit_src hh rfl (by simp [Value.oneCell'])) (by unfold maxLen; omega) (by omega) (by omega) ?_
            intro r7 w7 hown7 hgr7 hat7
            have hfin : Marks w7 BL r7 (L1 ++ L2 ++ [⟨kd, 0, 0⟩]) := Marks.app (us := [⟨kd, 0, 0⟩]) hown7 (by rw [List.length_append, HLR.out.2.2.1, HLR.out.2.2.2]; rfl) (by unfold small; omega)
            have hlt := h2.1.lt
            exact wpList_nil ⟨r7, rfl, hfin, trivial, Below.grown hBL hgr7 (by omega) (fun q hq => (hlt q hq).1), fun h => absurd (by simpa using h) HU2⟩
          · obtain ⟨hBL, hBW⟩ := hC
            have hBz := hBL.size
            go_wp2
            exact ⟨_, rfl, hd, Below.refl _ _, hBL, fun h => hBW (by simpa using h)⟩
        · intro u f wx hC hfin
          simp only [fillEnd, fillF, Act.put, List.setIfInBounds_toArray, List.set_cons_succ, List.set_cons_zero]
          have h6 : Marks wx BL (u 6) (L1 ++ L2 ++ [⟨kd, 0, 0⟩]) := hfin 6 (by decide) (by decide)
          obtain ⟨hBL, -⟩ := hC
          have hbF : Below w.heap.size w wx := hbw7.trans (hBL.mono (by omega))
          clear hfin
          go_wp2_with fail
          go_ret
          exact ⟨_, rfl, by rw [HMG.out]; exact h6.mono (by omega), hbF⟩

end Go.Proofs.Ytaohjhehlkeckaa

/- Contracts of the functions of chapter 9 in the model: MergedTerm. -/
namespace Go.Proofs.Ytaohjhehlkeckaa
open Go.RowKit

set_option maxHeartbeats 4000000 in
set_option maxRecDepth 20000 in
theorem specMerged_any (v : Value) (ts : List Mk) (b : Nat) (w : World) (hm : Marks w b v ts) :
    Calls Try.prog 35 #[v] w fun e w' => ∃ r, e = .returned r ∧ Marks w' w.heap.size r (mergedR ts) ∧ Below w.heap.size w w' := by
  obtain ⟨A, c, rfl, hc1, hc2, -, -⟩ := hm.form
  unfold maxLen at hc2
  cases ht : termB ts
  · have HR := Lib.hid (show mergedR ts = [] by simp [mergedR, ht])
    go_enter Try.func35, Try.ntmps35
    go_wp2_with fail
    refine (specTermOk_any _ ts b _ hm).mono ?_
    rintro e w1 ⟨rfl, hb1⟩
    rw [ht]
    have hz1 := hb1.size
    have hfin : Marks (w1.alloc (.cells #[] 33)) w.heap.size (.slice (some ⟨w1.heap.size, 0, none⟩) 0 0) [] := ⟨lit_own0 hz1 (heap_alloc_new _ _), by simp [small]⟩
    go_wp2_with fail
    go_ret
    exact ⟨_, rfl, by rw [HR.out]; exact hfin, by (repeat (first | (with_reducible assumption) | (with_reducible exact Below.refl _ _) | ((with_reducible refine Below.alloc ?_ ?hsz _); (case hsz => (first | omega | (simp; done) | (simp; omega) | (simp at *; omega)))) | ((with_reducible refine Below.setCell ?_ ?hsz _); (case hsz => (first | omega | (simp; done) | (simp; omega) | (simp at *; omega)))) | (with_reducible refine Below.drew ?_) | (with_reducible refine below_drewN ?_ _) | ((with_reducible refine Below.trans ?_ (Below.mono (by with_reducible assumption) ?hsz)); (case hsz => (first | omega | (simp; done) | (simp; omega) | (simp at *; omega))))))⟩
  · obtain ⟨hT, hg, h7, -⟩ := term_of ht
    have HR := Lib.hid (show mergedR ts = (tmOf ts).merged.marks by simp [mergedR, ht])
    have HT := Lib.hid (And.intro hT (And.intro hg h7))
    clear hT hg h7
    go_enter Try.func35, Try.ntmps35
    go_wp2_with fail
    refine (specTermOk_any _ ts b _ hm).mono ?_
    rintro e w1 ⟨rfl, hb1⟩
    rw [ht]
    have hA2 : ArgMarks w1 (.slice A ts.length c) (tmOf ts).marks := by rw [← HT.out.1]; exact hm.arg.keep hb1
    have hz1 := hb1.size
    go_wp2_with fail
    refine (l9Merged_any (tmOf ts) HT.out.2.1 HT.out.2.2 _ _ hA2).mono ?_
    rintro e w2 ⟨r, rfl, hr, hb2⟩
    have hbF : Below w.heap.size w w2 := hb1.trans (hb2.mono hz1)
    have hfin := hr.mono hz1
    clear hb1 hb2 hr hA2
    go_wp2_with fail
    go_ret
    exact ⟨_, rfl, by rw [HR.out]; exact hfin, hbF⟩

end Go.Proofs.Ytaohjhehlkeckaa
