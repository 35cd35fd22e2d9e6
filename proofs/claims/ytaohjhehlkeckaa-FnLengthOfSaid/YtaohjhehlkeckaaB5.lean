/- Contracts of the functions of chapter 9: LengthOf of the model. -/
import Derived.Test.YtaohjhehlkeckaaB1
import Derived.Test.YtaohjhehlkeckaaAU
import Derived.Test.YtaohjhehlkeckaaR
namespace Go.Proofs.Ytaohjhehlkeckaa
open Go.RowKit

set_option maxHeartbeats 8000000 in
set_option maxRecDepth 20000 in
theorem l9Long_any (T : Tm) (hgd : T.good) (h7 : T.pipes ≤ 7) : ∀ (v : Value) (w : World), ArgMarks w v T.marks →
    Calls Try.prog 50 #[v] w fun e w' => e = .returned (.int .i64 T.long) ∧ Below w.heap.size w w' := by
  induction T with
  | pipe h p =>
    intro v w hv
    obtain ⟨g, o, c, rfl, hc1, hc2, hg, hc⟩ := hv.at' (by simp [Tm.marks])
    obtain ⟨d0, d1, d2⟩ := hc 0 (by simp [Tm.marks])
    simp only [Tm.marks, Nat.zero_mul, Nat.add_zero, List.getElem_cons_zero] at d0 d1 d2
    simp only [Tm.marks, List.length_cons, List.length_nil, Nat.zero_add] at hc1 ⊢
    unfold maxLen at hc2
    clear hc
    go_enter Try.func50, Try.ntmps50
    go_wp2
    go_ret
    exact ⟨rfl, by (repeat (first | (with_reducible assumption) | (with_reducible exact Below.refl _ _) | ((with_reducible refine Below.alloc ?_ ?hsz _); (case hsz => (first | omega | (simp; done) | (simp; omega) | (simp at *; omega)))) | ((with_reducible refine Below.setCell ?_ ?hsz _); (case hsz => (first | omega | (simp; done) | (simp; omega) | (simp at *; omega)))) | (with_reducible refine Below.drew ?_) | (with_reducible refine below_drewN ?_ _) | ((with_reducible refine Below.trans ?_ (Below.mono (by with_reducible assumption) ?hsz)); (case hsz => (first | omega | (simp; done) | (simp; omega) | (simp at *; omega))))))⟩
  | two s a b iha ihb =>
    intro v w hv
    have pa := a.pipes_pos
    have pb := b.pipes_pos
    have iha := iha hgd.1 (by simp only [Tm.pipes] at h7; omega)
    have ihb := ihb hgd.2 (by simp only [Tm.pipes] at h7; omega)
    have h7b : b.pipes ≤ 7 := by simp only [Tm.pipes] at h7; omega
    have h7a : a.pipes ≤ 7 := by simp only [Tm.pipes] at h7; omega
    have la := a.len13 h7a
    have lb := b.len13 h7b
    have la0 : 0 < a.marks.length := by have := a.marks_len; omega
    have lb0 : 0 < b.marks.length := by have := b.marks_len; omega
    have hl : (Tm.two s a b).marks.length = a.marks.length + b.marks.length + 1 := by simp [Tm.marks]; omega
    obtain ⟨g, o, c, rfl, hc1, hc2, hg, hc⟩ := hv.at' (by omega)
    obtain ⟨hva, hvb, d0, -⟩ := hv.parts
    have hst : ∀ k (hk : k < b.marks.length), w.cell? ⟨g, o + (a.marks.length + k) * 3, none⟩ = some (.int .i64 b.marks[k].k) := fun k hk => by
      have := (hc (a.marks.length + k) (by omega)).1
      have e : (Tm.two s a b).marks[a.marks.length + k]'(by omega) = b.marks[k] := by simp [Tm.marks, List.getElem_append_left hk]
      rw [e] at this
      exact this
    rw [hl] at hc1 ⊢
    unfold maxLen at hc2
    have HVA := Lib.hid hva
    have HVB := Lib.hid hvb
    have HST := Lib.hid hst
    have bda := a.long_bd hgd.1
    have bdb := b.long_bd hgd.2
    obtain ⟨LA, hLA⟩ : ∃ LA, a.marks.length = LA := ⟨_, rfl⟩
    obtain ⟨M, hM⟩ : ∃ M, a.marks.length + b.marks.length = M := ⟨_, rfl⟩
    rw [hM] at hc1 d0 ⊢
    have HM := Lib.hid (And.intro hLA hM)
    have hM1 : LA < M := by omega
    have hM2 : M ≤ 26 := by omega
    clear hva hvb hst hc hv hl hLA hM
    have hk0 : (kindI s == 0) = false := by cases s <;> rfl
    go_enter Try.func50, Try.ntmps50
    go_wp2_with fail
    refine (l8Starts_any b hgd.2 h7b g o c (M + 1) LA _ _ (by have := HM.out; omega) (by have := HM.out; omega) (by have := HM.out; omega) (by (first | omega | (simp; done) | (simp; omega) | (simp at *; omega))) (by omega) (fun k hk => by
      have := HM.out
      rw [← this.1]
      exact HST.out k hk)).mono ?_
    rintro e w1 ⟨rfl, hb1⟩
    have hz1' := hb1.size
    have d01 := (hb1.cell (p := ⟨g, o + M * 3, none⟩) hg).trans d0
    have hgr1 : g < w1.heap.size := by omega
    have hca := fun p : Bw w1 => iha _ p.v (by have h := HVA.out.keep (hb1.trans (p.h.mono hb1.size)); rw [HM.out.1] at h; exact h)
    have hcb := fun p : Bw w1 => ihb _ p.v (by
      have h := HVB.out.keep (hb1.trans (p.h.mono hb1.size))
      have hm := HM.out
      rw [hm.1, show b.marks.length = M - LA by omega] at h
      exact h)
    obtain ⟨xa, hxa⟩ : ∃ x, a.long = x := ⟨_, rfl⟩
    obtain ⟨xb, hxb⟩ : ∃ x, b.long = x := ⟨_, rfl⟩
    have HX := Lib.hid (And.intro hxa hxb)
    rw [hxa] at hca bda
    rw [hxb] at hcb bdb
    have HCA := Lib.hid hca
    have HCB := Lib.hid hcb
    obtain ⟨xa0, xa1⟩ := bda
    obtain ⟨xb0, xb1⟩ := bdb
    have xa2 : xa ≤ 100 := by omega
    have xb2 : xb ≤ 100 := by omega
    clear hca hcb hxa hxb d0 iha ihb
    cases s
    · have k1 : kindI false = 1 := rfl
      rw [k1] at d01
      clear k1 hk0
      have HL := Lib.hid (show (Tm.two false a b).long = xa + xb by rw [← HX.out.1, ← HX.out.2]; rfl)
      have hw : IntKind.i64.wrap (xa + xb) = xa + xb := by rw [IntWalk.i64_in _ (by omega)]
      go_wp2_with fail
      refine wp_region_bw (by kernel_rfl) (by kernel_rfl) ?_
      repeat (go_big_quiet_step (first | (go_at_call 50; with_reducible refine calls_bw (HCA.out _)) | (go_at_call 50; with_reducible refine calls_bw (HCB.out _))))
      refine wpQuiet_nil ?_
      rintro _ ⟨pw, rfl⟩
      have hbF := hb1.trans (pw.h.mono hb1.size)
      go_wp2_with fail
      go_ret
      exact ⟨ret_int HL.out.symm, hbF⟩
    · have k1 : kindI true = 2 := rfl
      rw [k1] at d01
      clear k1 hk0
      by_cases hab : xa ≤ xb
      · have HL := Lib.hid (show (Tm.two true a b).long = xa by rw [show (Tm.two true a b).long = min a.long b.long from rfl, HX.out.1, HX.out.2]; omega)
        go_wp2_with fail
        refine wp_region_bw (by kernel_rfl) (by kernel_rfl) ?_
        repeat (go_big_quiet_step (first | (go_at_call 50; with_reducible refine calls_bw (HCA.out _)) | (go_at_call 50; with_reducible refine calls_bw (HCB.out _))))
        refine wpQuiet_nil ?_
        rintro _ ⟨pw, rfl⟩
        have hbF := hb1.trans (pw.h.mono hb1.size)
        go_wp2_with fail
        go_ret
        exact ⟨ret_int HL.out.symm, hbF⟩
      · have HL := Lib.hid (show (Tm.two true a b).long = xb by rw [show (Tm.two true a b).long = min a.long b.long from rfl, HX.out.1, HX.out.2]; omega)
        go_wp2_with fail
        refine wp_region_bw (by kernel_rfl) (by kernel_rfl) ?_
        repeat (go_big_quiet_step (first | (go_at_call 50; with_reducible refine calls_bw (HCA.out _)) | (go_at_call 50; with_reducible refine calls_bw (HCB.out _))))
        refine wpQuiet_nil ?_
        rintro _ ⟨pw, rfl⟩
        have hbF := hb1.trans (pw.h.mono hb1.size)
        go_wp2_with fail
        go_ret
        exact ⟨ret_int HL.out.symm, hbF⟩

set_option maxHeartbeats 1000000 in
set_option maxRecDepth 20000 in
theorem specLengthOf_any (v : Value) (ts : List Mk) (b : Nat) (w : World) (h : Marks w b v ts) :
    Calls Try.prog 19 #[v] w fun e w' => e = .returned (.int .i64 (longN ts)) ∧ Below w.heap.size w w' := by
  obtain ⟨A, c, rfl, hc1, hc2, -, -⟩ := h.form
  unfold maxLen at hc2
  cases ht : termB ts
  · have HR := Lib.hid (show longN ts = -1 by simp [longN, ht])
    go_enter Try.func19, Try.ntmps19
    go_wp2_with (first
      | (go_at_call 41; ((with_reducible refine (specTermOk_any _ ts b _ (h.keep (by (repeat (first | (with_reducible assumption) | (with_reducible exact Below.refl _ _) | ((with_reducible refine Below.alloc ?_ ?hsz _); (case hsz => (first | omega | (simp; done) | (simp; omega) | (simp at *; omega)))) | ((with_reducible refine Below.setCell ?_ ?hsz _); (case hsz => (first | omega | (simp; done) | (simp; omega) | (simp at *; omega)))) | (with_reducible refine Below.drew ?_) | (with_reducible refine below_drewN ?_ _) | ((with_reducible refine Below.trans ?_ (Below.mono (by with_reducible assumption) ?hsz)); (case hsz => (first | omega | (simp; done) | (simp; omega) | (simp at *; omega))))))))).mono ?_); rintro e w1 ⟨rfl, hb1⟩; obtain ⟨hc1, hf1, hz1⟩ := bcell hb1; (try simp at hz1); (try have hy1 : w.heap.size < w1.heap.size := by omega); (try have hy2 : w.heap.size + 1 < w1.heap.size := by omega); (try have hy3 : w.heap.size + 1 + 1 < w1.heap.size := by omega))))
    go_ret
    exact ⟨ret_int HR.out.symm, by (repeat (first | (with_reducible assumption) | (with_reducible exact Below.refl _ _) | ((with_reducible refine Below.alloc ?_ ?hsz _); (case hsz => (first | omega | (simp; done) | (simp; omega) | (simp at *; omega)))) | ((with_reducible refine Below.setCell ?_ ?hsz _); (case hsz => (first | omega | (simp; done) | (simp; omega) | (simp at *; omega)))) | (with_reducible refine Below.drew ?_) | (with_reducible refine below_drewN ?_ _) | ((with_reducible refine Below.trans ?_ (Below.mono (by with_reducible assumption) ?hsz)); (case hsz => (first | omega | (simp; done) | (simp; omega) | (simp at *; omega))))))⟩
  · obtain ⟨hT, hg, h7, -⟩ := term_of ht
    have HR := Lib.hid (show longN ts = (tmOf ts).long by simp [longN, ht])
    have HT := Lib.hid (And.intro hT (And.intro hg h7))
    clear hT hg h7
    go_enter Try.func19, Try.ntmps19
    go_wp2_with fail
    refine (specTermOk_any _ ts b _ (h.keep (by (repeat (first | (with_reducible assumption) | (with_reducible exact Below.refl _ _) | ((with_reducible refine Below.alloc ?_ ?hsz _); (case hsz => (first | omega | (simp; done) | (simp; omega) | (simp at *; omega)))) | ((with_reducible refine Below.setCell ?_ ?hsz _); (case hsz => (first | omega | (simp; done) | (simp; omega) | (simp at *; omega)))) | (with_reducible refine Below.drew ?_) | (with_reducible refine below_drewN ?_ _) | ((with_reducible refine Below.trans ?_ (Below.mono (by with_reducible assumption) ?hsz)); (case hsz => (first | omega | (simp; done) | (simp; omega) | (simp at *; omega))))))))).mono ?_
    rintro e w1 ⟨rfl, hb1⟩
    rw [ht]
    have hA := h.arg.keep (w' := w1) (by (repeat (first | (with_reducible assumption) | (with_reducible exact Below.refl _ _) | ((with_reducible refine Below.alloc ?_ ?hsz _); (case hsz => (first | omega | (simp; done) | (simp; omega) | (simp at *; omega)))) | ((with_reducible refine Below.setCell ?_ ?hsz _); (case hsz => (first | omega | (simp; done) | (simp; omega) | (simp at *; omega)))) | (with_reducible refine Below.drew ?_) | (with_reducible refine below_drewN ?_ _) | ((with_reducible refine Below.trans ?_ (Below.mono (by with_reducible assumption) ?hsz)); (case hsz => (first | omega | (simp; done) | (simp; omega) | (simp at *; omega)))))))
    have hA2 : ArgMarks w1 (.slice A ts.length c) (tmOf ts).marks := by rw [← HT.out.1]; exact hA
    have hB1 : Below w.heap.size w w1 := by (repeat (first | (with_reducible assumption) | (with_reducible exact Below.refl _ _) | ((with_reducible refine Below.alloc ?_ ?hsz _); (case hsz => (first | omega | (simp; done) | (simp; omega) | (simp at *; omega)))) | ((with_reducible refine Below.setCell ?_ ?hsz _); (case hsz => (first | omega | (simp; done) | (simp; omega) | (simp at *; omega)))) | (with_reducible refine Below.drew ?_) | (with_reducible refine below_drewN ?_ _) | ((with_reducible refine Below.trans ?_ (Below.mono (by with_reducible assumption) ?hsz)); (case hsz => (first | omega | (simp; done) | (simp; omega) | (simp at *; omega))))))
    have HA := Lib.hid hA2
    clear hA hA2
    go_wp2_with fail
    refine (l9Long_any (tmOf ts) HT.out.2.1 HT.out.2.2 _ _ (HA.out.keep (by (repeat (first | (with_reducible assumption) | (with_reducible exact Below.refl _ _) | ((with_reducible refine Below.alloc ?_ ?hsz _); (case hsz => (first | omega | (simp; done) | (simp; omega) | (simp at *; omega)))) | ((with_reducible refine Below.setCell ?_ ?hsz _); (case hsz => (first | omega | (simp; done) | (simp; omega) | (simp at *; omega)))) | (with_reducible refine Below.drew ?_) | (with_reducible refine below_drewN ?_ _) | ((with_reducible refine Below.trans ?_ (Below.mono (by with_reducible assumption) ?hsz)); (case hsz => (first | omega | (simp; done) | (simp; omega) | (simp at *; omega))))))))).mono ?_
    rintro e w2 ⟨rfl, hb2⟩
    have hz1 := hB1.size
    go_wp2
    go_ret
    exact ⟨ret_int HR.out.symm, by (repeat (first | (with_reducible assumption) | (with_reducible exact Below.refl _ _) | ((with_reducible refine Below.alloc ?_ ?hsz _); (case hsz => (first | omega | (simp; done) | (simp; omega) | (simp at *; omega)))) | ((with_reducible refine Below.setCell ?_ ?hsz _); (case hsz => (first | omega | (simp; done) | (simp; omega) | (simp at *; omega)))) | (with_reducible refine Below.drew ?_) | (with_reducible refine below_drewN ?_ _) | ((with_reducible refine Below.trans ?_ (Below.mono (by with_reducible assumption) ?hsz)); (case hsz => (first | omega | (simp; done) | (simp; omega) | (simp at *; omega))))))⟩

end Go.Proofs.Ytaohjhehlkeckaa
