/- FnMergedTerm: for every code the law holds: the program's MergedTerm answers as the model; what is made one is a term with the same costs and no more pipes, and made one again it stays. No condition. -/
import Derived.Test.YtaohjhehlkeckaaE7
import Derived.Test.YtaohjhehlkeckaaHE
import Derived.Test.YtaohjhehlkeckaaHF
import Derived.Test.YtaohjhehlkeckaaBU
import Derived.Test.YtaohjhehlkeckaaAW
import Derived.Test.YtaohjhehlkeckaaL1
import Derived.Test.YtaohjhehlkeckaaL6
namespace Go.Proofs.Ytaohjhehlkeckaa.lawMergedTerm
open Go.ChangeShapes Go.WideShapes Go.ChangeAt Go.RowKit Go.Deep Go.Joins

set_option maxHeartbeats 4000000 in
set_option maxRecDepth 20000 in
theorem walk (v : Value) (n : Nat) (w : World) (h : ArgBytes w v n) :
    Calls Try.prog 8 #[v] w fun e w' => e = .returned (.bool true) ∧ Below w.heap.size w w' := by
  obtain ⟨A, c, rfl, hc1, hc2, -⟩ := id h
  unfold maxLen at hc2
  by_cases hbig : 1048576 < n
  · go_enter Try.func8, Try.ntmps8
    go_wp2
    go_ret
    exact ⟨rfl, by (repeat (first | (with_reducible assumption) | (with_reducible exact Below.refl _ _) | ((with_reducible refine Below.alloc ?_ ?hsz _); (case hsz => (first | omega | (simp; done) | (simp; omega) | (simp at *; omega)))) | ((with_reducible refine Below.setCell ?_ ?hsz _); (case hsz => (first | omega | (simp; done) | (simp; omega) | (simp at *; omega)))) | (with_reducible refine Below.drew ?_) | (with_reducible refine below_drewN ?_ _) | ((with_reducible refine Below.trans ?_ (Below.mono (by with_reducible assumption) ?hsz)); (case hsz => (first | omega | (simp; done) | (simp; omega) | (simp at *; omega))))))⟩
  go_enter Try.func8, Try.ntmps8
  go_wp2_with fail
  with_reducible refine (drawMergedTerm_any _ n _ (h.keep (by (repeat (first | (with_reducible assumption) | (with_reducible exact Below.refl _ _) | ((with_reducible refine Below.alloc ?_ ?hsz _); (case hsz => (first | omega | (simp; done) | (simp; omega) | (simp at *; omega)))) | ((with_reducible refine Below.setCell ?_ ?hsz _); (case hsz => (first | omega | (simp; done) | (simp; omega) | (simp at *; omega)))) | (with_reducible refine Below.drew ?_) | (with_reducible refine below_drewN ?_ _) | ((with_reducible refine Below.trans ?_ (Below.mono (by with_reducible assumption) ?hsz)); (case hsz => (first | omega | (simp; done) | (simp; omega) | (simp at *; omega))))))))).mono ?_
  rintro e w1 ⟨r, ts, rfl, hm, hl, hBw0⟩
  have hBw1 : Below w.heap.size w w1 := by (repeat (first | (with_reducible assumption) | (with_reducible exact Below.refl _ _) | ((with_reducible refine Below.alloc ?_ ?hsz _); (case hsz => (first | omega | (simp; done) | (simp; omega) | (simp at *; omega)))) | ((with_reducible refine Below.setCell ?_ ?hsz _); (case hsz => (first | omega | (simp; done) | (simp; omega) | (simp at *; omega)))) | (with_reducible refine Below.drew ?_) | (with_reducible refine below_drewN ?_ _) | ((with_reducible refine Below.trans ?_ (Below.mono (by with_reducible assumption) ?hsz)); (case hsz => (first | omega | (simp; done) | (simp; omega) | (simp at *; omega))))))
  clear h hc1 hc2 hbig hBw0
  obtain ⟨A1, c1, rfl, hk1, hk2, hsm, hcell⟩ := hm.form
  have HC := Lib.hid hcell
  clear hcell
  unfold maxLen at hk2
  have hB1 : Below w1.heap.size w1 w1 := Below.refl _ _
  obtain ⟨l, hlq⟩ : ∃ l, ts.length = l := ⟨_, rfl⟩
  have HL := Lib.hid hlq
  rw [hlq] at hm hk1 hsm hl ⊢
  clear hlq
  go_wp2_with fail
  with_reducible refine (mergedTerm_any _ ts _ _ (hm.keep hB1)).mono ?_
  rintro e w2 ⟨r, rfl, hx2, hnn⟩
  have hBw2 : Below w1.heap.size w1 w2 := by (repeat (first | (with_reducible assumption) | (with_reducible exact Below.refl _ _) | ((with_reducible refine Below.alloc ?_ ?hsz _); (case hsz => (first | omega | (simp; done) | (simp; omega) | (simp at *; omega)))) | ((with_reducible refine Below.setCell ?_ ?hsz _); (case hsz => (first | omega | (simp; done) | (simp; omega) | (simp at *; omega)))) | (with_reducible refine Below.drew ?_) | (with_reducible refine below_drewN ?_ _) | ((with_reducible refine Below.trans ?_ (Below.mono (by with_reducible assumption) ?hsz)); (case hsz => (first | omega | (simp; done) | (simp; omega) | (simp at *; omega))))))
  have hzw2 := hBw2.size
  have hnw2 := hnn
  clear hnn
  go_wp2_with fail
  with_reducible refine (specMerged_any _ ts _ _ (hm.keep hBw2)).mono ?_
  rintro e w3 ⟨r, rfl, hy3, hnn⟩
  have hBw3 : Below w1.heap.size w1 w3 := by (repeat (first | (with_reducible assumption) | (with_reducible exact Below.refl _ _) | ((with_reducible refine Below.alloc ?_ ?hsz _); (case hsz => (first | omega | (simp; done) | (simp; omega) | (simp at *; omega)))) | ((with_reducible refine Below.setCell ?_ ?hsz _); (case hsz => (first | omega | (simp; done) | (simp; omega) | (simp at *; omega)))) | (with_reducible refine Below.drew ?_) | (with_reducible refine below_drewN ?_ _) | ((with_reducible refine Below.trans ?_ (Below.mono (by with_reducible assumption) ?hsz)); (case hsz => (first | omega | (simp; done) | (simp; omega) | (simp at *; omega))))))
  have hzw3 := hBw3.size
  have hnw3 := hnn
  clear hnn
  have hx3 := hx2.keep hnw3
  have hl13 := mergedR_len ts
  obtain ⟨X, hX⟩ : ∃ x, mergedR ts = x := ⟨_, rfl⟩
  have HX := Lib.hid hX
  rw [hX] at hx3 hy3 hl13
  clear hX hx2
  obtain ⟨A5, c5, rfl, hk5, hk6, -, -⟩ := hx3.form
  unfold maxLen at hk6
  obtain ⟨lx, hlx⟩ : ∃ x, X.length = x := ⟨_, rfl⟩
  have HLX := Lib.hid hlx
  rw [hlx] at hx3 hk5 hl13 ⊢
  clear hlx
  go_wp2_with fail
  with_reducible refine (sameMarks_any _ _ X X _ _ _ hx3 hy3).mono ?_
  rintro e w4 ⟨rfl, hnn⟩
  have hB4 : Below w1.heap.size w1 w4 := by (repeat (first | (with_reducible assumption) | (with_reducible exact Below.refl _ _) | ((with_reducible refine Below.alloc ?_ ?hsz _); (case hsz => (first | omega | (simp; done) | (simp; omega) | (simp at *; omega)))) | ((with_reducible refine Below.setCell ?_ ?hsz _); (case hsz => (first | omega | (simp; done) | (simp; omega) | (simp at *; omega)))) | (with_reducible refine Below.drew ?_) | (with_reducible refine below_drewN ?_ _) | ((with_reducible refine Below.trans ?_ (Below.mono (by with_reducible assumption) ?hsz)); (case hsz => (first | omega | (simp; done) | (simp; omega) | (simp at *; omega))))))
  have hzw4 := (hB4).size
  have hnw4 := hnn
  clear hnn
  rw [decide_eq_true (rfl : X = X)]
  have hx4 := hx3.keep hnw4
  clear hx3 hy3
  obtain ⟨b, hb⟩ : ∃ b, termB ts = b := ⟨_, rfl⟩
  have HB := Lib.hid hb
  clear hb
  cases b with
  | false =>
    have h0 : lx = 0 := by rw [← HLX.out, ← HX.out, mergedR, if_neg (by simp [HB.out])]; rfl
    subst h0
    go_wp2_with fail
    with_reducible refine (termOk_any _ ts _ _ (hm.keep hB4)).mono ?_
    rintro e w5 ⟨rfl, hnn⟩
    have hB5 : Below w1.heap.size w1 w5 := by (repeat (first | (with_reducible assumption) | (with_reducible exact Below.refl _ _) | ((with_reducible refine Below.alloc ?_ ?hsz _); (case hsz => (first | omega | (simp; done) | (simp; omega) | (simp at *; omega)))) | ((with_reducible refine Below.setCell ?_ ?hsz _); (case hsz => (first | omega | (simp; done) | (simp; omega) | (simp at *; omega)))) | (with_reducible refine Below.drew ?_) | (with_reducible refine below_drewN ?_ _) | ((with_reducible refine Below.trans ?_ (Below.mono (by with_reducible assumption) ?hsz)); (case hsz => (first | omega | (simp; done) | (simp; omega) | (simp at *; omega))))))
    have hzw5 := (hB5).size
    have hnw5 := hnn
    clear hnn
    rw [HB.out]
    go_wp2_with fail
    with_reducible refine (alive_any _).mono ?_
    rintro e w6 ⟨rfl, hnn⟩
    have hB6 : Below w1.heap.size w1 w6 := by (repeat (first | (with_reducible assumption) | (with_reducible exact Below.refl _ _) | ((with_reducible refine Below.alloc ?_ ?hsz _); (case hsz => (first | omega | (simp; done) | (simp; omega) | (simp at *; omega)))) | ((with_reducible refine Below.setCell ?_ ?hsz _); (case hsz => (first | omega | (simp; done) | (simp; omega) | (simp at *; omega)))) | (with_reducible refine Below.drew ?_) | (with_reducible refine below_drewN ?_ _) | ((with_reducible refine Below.trans ?_ (Below.mono (by with_reducible assumption) ?hsz)); (case hsz => (first | omega | (simp; done) | (simp; omega) | (simp at *; omega))))))
    have hzw6 := (hB6).size
    have hnw6 := hnn
    clear hnn
    go_wp2
    (go_ret; exact ⟨rfl, hBw1.trans (Below.mono (by with_reducible assumption) hBw1.size)⟩)
  | true =>
    obtain ⟨f1, f2, f3, f4, f5⟩ := mergedR_yes HB.out
    rw [HX.out] at f1 f2 f3 f4 f5
    rw [HLX.out] at f5
    have f6 : ((lx : Int) == 0) = false := by rw [beq_eq_false_iff_ne]; omega
    obtain ⟨na, hna⟩ : ∃ x, pipesN ts = x := ⟨_, rfl⟩
    obtain ⟨nb, hnb⟩ : ∃ x, pipesN X = x := ⟨_, rfl⟩
    obtain ⟨C, hC⟩ : ∃ x, costsR ts = x := ⟨_, rfl⟩
    rw [hna, hnb] at f4
    rw [hC] at f2
    have HF := Lib.hid (And.intro f1 (And.intro f2 f3))
    have HN := Lib.hid (And.intro hna (And.intro hnb hC))
    clear f1 f2 f3 f5 hna hnb hC
    go_wp2_with fail
    with_reducible refine (termOk_any _ X _ _ hx4).mono ?_
    rintro e w5 ⟨rfl, hnn⟩
    have hB5 : Below w1.heap.size w1 w5 := by (repeat (first | (with_reducible assumption) | (with_reducible exact Below.refl _ _) | ((with_reducible refine Below.alloc ?_ ?hsz _); (case hsz => (first | omega | (simp; done) | (simp; omega) | (simp at *; omega)))) | ((with_reducible refine Below.setCell ?_ ?hsz _); (case hsz => (first | omega | (simp; done) | (simp; omega) | (simp at *; omega)))) | (with_reducible refine Below.drew ?_) | (with_reducible refine below_drewN ?_ _) | ((with_reducible refine Below.trans ?_ (Below.mono (by with_reducible assumption) ?hsz)); (case hsz => (first | omega | (simp; done) | (simp; omega) | (simp at *; omega))))))
    have hzw5 := (hB5).size
    have hnw5 := hnn
    clear hnn
    rw [HF.out.1]
    have hx5 := hx4.keep hnw5
    go_wp2_with fail
    with_reducible refine (costsOf_any _ X _ _ hx5).mono ?_
    rintro e w6 ⟨r, rfl, hi6, hnn⟩
    have hBw6 : Below w1.heap.size w1 w6 := by (repeat (first | (with_reducible assumption) | (with_reducible exact Below.refl _ _) | ((with_reducible refine Below.alloc ?_ ?hsz _); (case hsz => (first | omega | (simp; done) | (simp; omega) | (simp at *; omega)))) | ((with_reducible refine Below.setCell ?_ ?hsz _); (case hsz => (first | omega | (simp; done) | (simp; omega) | (simp at *; omega)))) | (with_reducible refine Below.drew ?_) | (with_reducible refine below_drewN ?_ _) | ((with_reducible refine Below.trans ?_ (Below.mono (by with_reducible assumption) ?hsz)); (case hsz => (first | omega | (simp; done) | (simp; omega) | (simp at *; omega))))))
    have hzw6 := hBw6.size
    have hnw6 := hnn
    clear hnn
    rw [HF.out.2.1] at hi6
    have hx6 := hx5.keep hnw6
    go_wp2_with fail
    with_reducible refine (costsOf_any _ ts _ _ (hm.keep hBw6)).mono ?_
    rintro e w7 ⟨r, rfl, hi7, hnn⟩
    have hBw7 : Below w1.heap.size w1 w7 := by (repeat (first | (with_reducible assumption) | (with_reducible exact Below.refl _ _) | ((with_reducible refine Below.alloc ?_ ?hsz _); (case hsz => (first | omega | (simp; done) | (simp; omega) | (simp at *; omega)))) | ((with_reducible refine Below.setCell ?_ ?hsz _); (case hsz => (first | omega | (simp; done) | (simp; omega) | (simp at *; omega)))) | (with_reducible refine Below.drew ?_) | (with_reducible refine below_drewN ?_ _) | ((with_reducible refine Below.trans ?_ (Below.mono (by with_reducible assumption) ?hsz)); (case hsz => (first | omega | (simp; done) | (simp; omega) | (simp at *; omega))))))
    have hzw7 := hBw7.size
    have hnw7 := hnn
    clear hnn
    rw [HN.out.2.2] at hi7
    have hj7 := hi6.keep hnw7
    have hx7 := hx6.keep hnw7
    clear hi6
    go_wp2_with fail
    with_reducible refine (sameInts_any _ _ C C _ _ _ hj7 hi7).mono ?_
    rintro e w8 ⟨rfl, hnn⟩
    have hB8 : Below w1.heap.size w1 w8 := by (repeat (first | (with_reducible assumption) | (with_reducible exact Below.refl _ _) | ((with_reducible refine Below.alloc ?_ ?hsz _); (case hsz => (first | omega | (simp; done) | (simp; omega) | (simp at *; omega)))) | ((with_reducible refine Below.setCell ?_ ?hsz _); (case hsz => (first | omega | (simp; done) | (simp; omega) | (simp at *; omega)))) | (with_reducible refine Below.drew ?_) | (with_reducible refine below_drewN ?_ _) | ((with_reducible refine Below.trans ?_ (Below.mono (by with_reducible assumption) ?hsz)); (case hsz => (first | omega | (simp; done) | (simp; omega) | (simp at *; omega))))))
    have hzw8 := (hB8).size
    have hnw8 := hnn
    clear hnn
    rw [decide_eq_true (rfl : C = C)]
    have hx8 := hx7.keep hnw8
    clear hi7 hj7
    go_wp2_with fail
    with_reducible refine (pipesIn_any _ X _ _ hx8).mono ?_
    rintro e w9 ⟨rfl, hnn⟩
    have hB9 : Below w1.heap.size w1 w9 := by (repeat (first | (with_reducible assumption) | (with_reducible exact Below.refl _ _) | ((with_reducible refine Below.alloc ?_ ?hsz _); (case hsz => (first | omega | (simp; done) | (simp; omega) | (simp at *; omega)))) | ((with_reducible refine Below.setCell ?_ ?hsz _); (case hsz => (first | omega | (simp; done) | (simp; omega) | (simp at *; omega)))) | (with_reducible refine Below.drew ?_) | (with_reducible refine below_drewN ?_ _) | ((with_reducible refine Below.trans ?_ (Below.mono (by with_reducible assumption) ?hsz)); (case hsz => (first | omega | (simp; done) | (simp; omega) | (simp at *; omega))))))
    have hzw9 := (hB9).size
    have hnw9 := hnn
    clear hnn
    rw [HN.out.2.1]
    have hx9 := hx8.keep hnw9
    go_wp2_with fail
    with_reducible refine (pipesIn_any _ ts _ _ (hm.keep hB9)).mono ?_
    rintro e w10 ⟨rfl, hnn⟩
    have hB10 : Below w1.heap.size w1 w10 := by (repeat (first | (with_reducible assumption) | (with_reducible exact Below.refl _ _) | ((with_reducible refine Below.alloc ?_ ?hsz _); (case hsz => (first | omega | (simp; done) | (simp; omega) | (simp at *; omega)))) | ((with_reducible refine Below.setCell ?_ ?hsz _); (case hsz => (first | omega | (simp; done) | (simp; omega) | (simp at *; omega)))) | (with_reducible refine Below.drew ?_) | (with_reducible refine below_drewN ?_ _) | ((with_reducible refine Below.trans ?_ (Below.mono (by with_reducible assumption) ?hsz)); (case hsz => (first | omega | (simp; done) | (simp; omega) | (simp at *; omega))))))
    have hzw10 := (hB10).size
    have hnw10 := hnn
    clear hnn
    rw [HN.out.1]
    have hx10 := hx9.keep hnw10
    go_wp2_with fail
    with_reducible refine (mergedTerm_any _ X _ _ hx10).mono ?_
    rintro e w11 ⟨r, rfl, hy11, hnn⟩
    have hBw11 : Below w1.heap.size w1 w11 := by (repeat (first | (with_reducible assumption) | (with_reducible exact Below.refl _ _) | ((with_reducible refine Below.alloc ?_ ?hsz _); (case hsz => (first | omega | (simp; done) | (simp; omega) | (simp at *; omega)))) | ((with_reducible refine Below.setCell ?_ ?hsz _); (case hsz => (first | omega | (simp; done) | (simp; omega) | (simp at *; omega)))) | (with_reducible refine Below.drew ?_) | (with_reducible refine below_drewN ?_ _) | ((with_reducible refine Below.trans ?_ (Below.mono (by with_reducible assumption) ?hsz)); (case hsz => (first | omega | (simp; done) | (simp; omega) | (simp at *; omega))))))
    have hzw11 := hBw11.size
    have hnw11 := hnn
    clear hnn
    rw [HF.out.2.2] at hy11
    have hx11 := hx10.keep hnw11
    go_wp2_with fail
    with_reducible refine (sameMarks_any _ _ X X _ _ _ hy11 hx11).mono ?_
    rintro e w12 ⟨rfl, hnn⟩
    have hB12 : Below w1.heap.size w1 w12 := by (repeat (first | (with_reducible assumption) | (with_reducible exact Below.refl _ _) | ((with_reducible refine Below.alloc ?_ ?hsz _); (case hsz => (first | omega | (simp; done) | (simp; omega) | (simp at *; omega)))) | ((with_reducible refine Below.setCell ?_ ?hsz _); (case hsz => (first | omega | (simp; done) | (simp; omega) | (simp at *; omega)))) | (with_reducible refine Below.drew ?_) | (with_reducible refine below_drewN ?_ _) | ((with_reducible refine Below.trans ?_ (Below.mono (by with_reducible assumption) ?hsz)); (case hsz => (first | omega | (simp; done) | (simp; omega) | (simp at *; omega))))))
    have hzw12 := (hB12).size
    have hnw12 := hnn
    clear hnn
    rw [decide_eq_true (rfl : X = X)]
    go_wp2
    (go_ret; exact ⟨rfl, hBw1.trans (Below.mono (by with_reducible assumption) hBw1.size)⟩)

set_option maxRecDepth 100000 in
theorem contract (H : Type) (enc : TypeId × Value → H) (W : World) (base : Nat) (args : Array Value) (ds gs : List (DataW H)) (before : List MemPlace)
    (hval : ∀ (j : Nat) t v, Try.f8.params[j]? = some t → args[j]? = some v → Value.okWide Try.prog W .any base t v)
    (hW : DataW.Whole enc Try.prog Try.f8.params.toList Rows.fnMergedTermSpec.vars false W args.toList ds gs before) :
    Calls Try.prog 8 args W fun e W' => ∃ v, e = .returned v ∧ Rows.fnMergedTermSpec.post enc Try.prog Try.f8 false true false false W args v W' := by
  have hW' := hW
  obtain ⟨p, q, hA0, hV, rfl, hfz, hnd⟩ := hW
  have hA : DataW.TrodAll enc Try.prog W 0 (fun _ => true) true Try.f8.params.toList args.toList ds p := hA0
  rw [Try.params8] at hA hval
  obtain ⟨u0, us0, d0, ds0, p0, q0, hargs, rfl, rfl, g0, k0⟩ := trodAll_cons hA
  obtain ⟨rfl, rfl, rfl⟩ := trodAll_nil k0
  obtain rfl : args = #[u0] := by cases args; simp_all
  obtain ⟨rfl, rfl⟩ := trodVars_none hV
  obtain ⟨m0, e0⟩ := g0
  obtain ⟨s0, l0, f0, hh0⟩ := open_arg_bytes e0
  have f0' := one_of_cells Try.underlying22 (hval 0 _ _ rfl rfl) f0
  subst f0'
  refine (walk _ l0 W hh0).mono fun e W' ⟨he, hb⟩ => ?_
  subst he
  exact ⟨_, rfl, law_post Try.kids Try.full (by rw [Try.params8]; decide) rfl rfl Try.underlying4 hW' rfl rfl rfl hb⟩

set_option maxRecDepth 100000 in
theorem lifted (os : Os) (started : os.Started) (H : Type) (enc : TypeId × Value → H) :
    ReturnsInHanded {} Try.checked os 8 .any (Rows.fnMergedTermSpec.pre6 enc Try.prog Try.f8 Rows.fnMergedTermRow.domain false) (Rows.fnMergedTermSpec.post enc Try.prog Try.f8 false true false false) := by
  refine returnsInHanded_of_change (C := Try.checked) Try.own started (by kernel_rfl) Try.func8
    (ChangeSpec.witness6 (enc := enc) (C := Try.checked) false ⟨#[], #[.slice none 0 0], []⟩ 8 (by kernel_rfl) (by kernel_rfl) (by kernel_rfl) (by kernel_rfl)) ?_
  intro W base args ds gs before hval0 hW _ _
  exact contract H enc W base args ds gs before hval0 hW

theorem proved : Rows.FnMergedTermSaid :=
  OpenClaim.holds_of_wide 8 Try.f8 rfl rfl rfl rfl rfl rfl rfl ⟨rfl, rfl, rfl, rfl, rfl⟩ rfl rfl rfl rfl rfl (by kernel_rfl) Try.func8 (by kernel_rfl)
    (of_decide_eq_true (by kernel_rfl)) (by unfold Func.isWrapper; first | (rw [if_pos (by decide +kernel)]; kernel_rfl) | (rw [if_neg (by decide +kernel)]; exact ⟨rfl, rfl⟩))
    (fun os started H enc _ => lifted os started H enc)

end Go.Proofs.Ytaohjhehlkeckaa.lawMergedTerm
