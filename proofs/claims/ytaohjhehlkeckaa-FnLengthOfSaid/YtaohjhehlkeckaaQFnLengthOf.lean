/- FnLengthOf: for every code the law holds: the program's LengthOf answers as the model; it is at most the sum of all holds, and times what the term carries at most the sum of their squares. No condition. -/
import Derived.Test.YtaohjhehlkeckaaDB
import Derived.Test.YtaohjhehlkeckaaB4
import Derived.Test.YtaohjhehlkeckaaB5
import Derived.Test.YtaohjhehlkeckaaB8
import Derived.Test.YtaohjhehlkeckaaAX
namespace Go.Proofs.Ytaohjhehlkeckaa.lawLengthOf
open Go.ChangeShapes Go.WideShapes Go.ChangeAt Go.RowKit Go.Deep Go.Joins

set_option maxHeartbeats 4000000 in
set_option maxRecDepth 20000 in
theorem walk (v : Value) (n : Nat) (w : World) (h : ArgBytes w v n) :
    Calls Try.prog 4 #[v] w fun e w' => e = .returned (.bool true) ∧ Below w.heap.size w w' := by
  obtain ⟨A, c, rfl, hc1, hc2, -⟩ := id h
  unfold maxLen at hc2
  by_cases hbig : 1048576 < n
  · go_enter Try.func4, Try.ntmps4
    go_wp2
    go_ret
    exact ⟨rfl, by (repeat (first | (with_reducible assumption) | (with_reducible exact Below.refl _ _) | ((with_reducible refine Below.alloc ?_ ?hsz _); (case hsz => (first | omega | (simp; done) | (simp; omega) | (simp at *; omega)))) | ((with_reducible refine Below.setCell ?_ ?hsz _); (case hsz => (first | omega | (simp; done) | (simp; omega) | (simp at *; omega)))) | (with_reducible refine Below.drew ?_) | (with_reducible refine below_drewN ?_ _) | ((with_reducible refine Below.trans ?_ (Below.mono (by with_reducible assumption) ?hsz)); (case hsz => (first | omega | (simp; done) | (simp; omega) | (simp at *; omega))))))⟩
  go_enter Try.func4, Try.ntmps4
  go_wp2_with fail
  with_reducible refine (drawLengthOf_any _ n _ (h.keep (by (repeat (first | (with_reducible assumption) | (with_reducible exact Below.refl _ _) | ((with_reducible refine Below.alloc ?_ ?hsz _); (case hsz => (first | omega | (simp; done) | (simp; omega) | (simp at *; omega)))) | ((with_reducible refine Below.setCell ?_ ?hsz _); (case hsz => (first | omega | (simp; done) | (simp; omega) | (simp at *; omega)))) | (with_reducible refine Below.drew ?_) | (with_reducible refine below_drewN ?_ _) | ((with_reducible refine Below.trans ?_ (Below.mono (by with_reducible assumption) ?hsz)); (case hsz => (first | omega | (simp; done) | (simp; omega) | (simp at *; omega))))))))).mono ?_
  rintro e w1 ⟨r, ts, rfl, hm, hl, hBw0⟩
  have hBw1 : Below w.heap.size w w1 := by (repeat (first | (with_reducible assumption) | (with_reducible exact Below.refl _ _) | ((with_reducible refine Below.alloc ?_ ?hsz _); (case hsz => (first | omega | (simp; done) | (simp; omega) | (simp at *; omega)))) | ((with_reducible refine Below.setCell ?_ ?hsz _); (case hsz => (first | omega | (simp; done) | (simp; omega) | (simp at *; omega)))) | (with_reducible refine Below.drew ?_) | (with_reducible refine below_drewN ?_ _) | ((with_reducible refine Below.trans ?_ (Below.mono (by with_reducible assumption) ?hsz)); (case hsz => (first | omega | (simp; done) | (simp; omega) | (simp at *; omega))))))
  clear h hc1 hc2 hbig hBw0
  obtain ⟨A1, c1, rfl, hk1, hk2, hsm, hcell⟩ := hm.form
  have HC := Lib.hid hcell
  clear hcell
  unfold maxLen at hk2
  have hB1 : Below w1.heap.size w1 w1 := Below.refl _ _
  obtain ⟨l, hlq⟩ : ∃ l, ts.length = l := ⟨_, rfl⟩
  have HL := Lib.hid hlq
  rw [hlq] at hm hk1 hsm hl ⊢
  clear hlq
  obtain ⟨p, hp⟩ : ∃ p, longN ts = p := ⟨_, rfl⟩
  have HP := Lib.hid hp
  clear hp
  go_wp2_with fail
  with_reducible refine (lengthOf_any _ ts _ _ (hm.keep hB1)).mono ?_
  rintro e w2 ⟨rfl, hnn⟩
  have hB2 : Below w1.heap.size w1 w2 := by (repeat (first | (with_reducible assumption) | (with_reducible exact Below.refl _ _) | ((with_reducible refine Below.alloc ?_ ?hsz _); (case hsz => (first | omega | (simp; done) | (simp; omega) | (simp at *; omega)))) | ((with_reducible refine Below.setCell ?_ ?hsz _); (case hsz => (first | omega | (simp; done) | (simp; omega) | (simp at *; omega)))) | (with_reducible refine Below.drew ?_) | (with_reducible refine below_drewN ?_ _) | ((with_reducible refine Below.trans ?_ (Below.mono (by with_reducible assumption) ?hsz)); (case hsz => (first | omega | (simp; done) | (simp; omega) | (simp at *; omega))))))
  have hzw2 := (hB2).size
  have hnw2 := hnn
  clear hnn
  rw [HP.out]
  go_wp2_with fail
  with_reducible refine (specLengthOf_any _ ts _ _ (hm.keep hB2)).mono ?_
  rintro e w3 ⟨rfl, hnn⟩
  have hB3 : Below w1.heap.size w1 w3 := by (repeat (first | (with_reducible assumption) | (with_reducible exact Below.refl _ _) | ((with_reducible refine Below.alloc ?_ ?hsz _); (case hsz => (first | omega | (simp; done) | (simp; omega) | (simp at *; omega)))) | ((with_reducible refine Below.setCell ?_ ?hsz _); (case hsz => (first | omega | (simp; done) | (simp; omega) | (simp at *; omega)))) | (with_reducible refine Below.drew ?_) | (with_reducible refine below_drewN ?_ _) | ((with_reducible refine Below.trans ?_ (Below.mono (by with_reducible assumption) ?hsz)); (case hsz => (first | omega | (simp; done) | (simp; omega) | (simp at *; omega))))))
  have hzw3 := (hB3).size
  have hnw3 := hnn
  clear hnn
  rw [HP.out]
  obtain ⟨b, hb⟩ : ∃ b, termB ts = b := ⟨_, rfl⟩
  have HB := Lib.hid hb
  clear hb
  cases b with
  | false =>
    have h1 : p = -1 := by rw [← HP.out]; simp [longN, HB.out]
    subst h1
    go_wp2_with fail
    with_reducible refine (termOk_any _ ts _ _ (hm.keep hB3)).mono ?_
    rintro e w4 ⟨rfl, hnn⟩
    have hB4 : Below w1.heap.size w1 w4 := by (repeat (first | (with_reducible assumption) | (with_reducible exact Below.refl _ _) | ((with_reducible refine Below.alloc ?_ ?hsz _); (case hsz => (first | omega | (simp; done) | (simp; omega) | (simp at *; omega)))) | ((with_reducible refine Below.setCell ?_ ?hsz _); (case hsz => (first | omega | (simp; done) | (simp; omega) | (simp at *; omega)))) | (with_reducible refine Below.drew ?_) | (with_reducible refine below_drewN ?_ _) | ((with_reducible refine Below.trans ?_ (Below.mono (by with_reducible assumption) ?hsz)); (case hsz => (first | omega | (simp; done) | (simp; omega) | (simp at *; omega))))))
    have hzw4 := (hB4).size
    have hnw4 := hnn
    clear hnn
    rw [HB.out]
    go_wp2_with fail
    with_reducible refine (alive_any _).mono ?_
    rintro e w5 ⟨rfl, hnn⟩
    have hB5 : Below w1.heap.size w1 w5 := by (repeat (first | (with_reducible assumption) | (with_reducible exact Below.refl _ _) | ((with_reducible refine Below.alloc ?_ ?hsz _); (case hsz => (first | omega | (simp; done) | (simp; omega) | (simp at *; omega)))) | ((with_reducible refine Below.setCell ?_ ?hsz _); (case hsz => (first | omega | (simp; done) | (simp; omega) | (simp at *; omega)))) | (with_reducible refine Below.drew ?_) | (with_reducible refine below_drewN ?_ _) | ((with_reducible refine Below.trans ?_ (Below.mono (by with_reducible assumption) ?hsz)); (case hsz => (first | omega | (simp; done) | (simp; omega) | (simp at *; omega))))))
    have hzw5 := (hB5).size
    have hnw5 := hnn
    clear hnn
    go_wp2
    (go_ret; exact ⟨rfl, hBw1.trans (Below.mono (by with_reducible assumption) hBw1.size)⟩)
  | true =>
    obtain ⟨hT, hg, h7, -⟩ := term_of HB.out
    have hbd := (tmOf ts).long_bd hg
    have hpp : p = (tmOf ts).long := by rw [← HP.out]; simp [longN, HB.out]
    obtain ⟨q, hq⟩ : ∃ q, carriesN ts = q := ⟨_, rfl⟩
    have hqq : q = (tmOf ts).carry := by rw [← hq]; simp [carriesN, HB.out]
    have hcd := (tmOf ts).carry_bd hg
    have e1 := (tmOf ts).long_sum hg
    have e2 := (tmOf ts).long_carry hg
    rw [← hT, ← hpp] at e1
    rw [← hT, ← hpp, ← hqq] at e2
    rw [← hpp] at hbd
    rw [← hqq] at hcd
    have hp0 : 0 ≤ p := hbd.1
    have hp1 : p ≤ 28 := by omega
    have hq0 : 0 ≤ q := hcd.1
    have hq1 : q ≤ 28 := by omega
    have HE := Lib.hid (And.intro e1 (And.intro e2 hq))
    have HMK := Lib.hid (term_marks HB.out)
    have HSB := Lib.hid (fun k => sum_bds (ts := ts.take k) (fun m hm => term_marks HB.out m (List.mem_of_mem_take hm)))
    have HSN := Lib.hid (fun k hk => And.intro (sumH_snoc ts k hk) (sqH_snoc ts k hk))
    clear hT hg hpp hbd hqq hcd e1 e2 hq h7
    go_wp2_with fail
    go_loopw [7, 5, 6] (fun a s q wr => ∃ k : Nat, k ≤ l ∧ a = .int .i64 k ∧ s = .int .i64 (sumH (ts.take k)) ∧ q = .int .i64 (sqH (ts.take k)) ∧ Below w3.heap.size w3 wr) (fun a _ _ _ => l - (intOf a).toNat)
    case atStart => exact ⟨0, by omega, rfl, rfl, rfl, by (repeat (first | (with_reducible assumption) | (with_reducible exact Below.refl _ _) | ((with_reducible refine Below.alloc ?_ ?hsz _); (case hsz => (first | omega | (simp; done) | (simp; omega) | (simp at *; omega)))) | ((with_reducible refine Below.setCell ?_ ?hsz _); (case hsz => (first | omega | (simp; done) | (simp; omega) | (simp at *; omega)))) | (with_reducible refine Below.drew ?_) | (with_reducible refine below_drewN ?_ _) | ((with_reducible refine Below.trans ?_ (Below.mono (by with_reducible assumption) ?hsz)); (case hsz => (first | omega | (simp; done) | (simp; omega) | (simp at *; omega))))))⟩
    case round =>
      obtain ⟨k, hk, rfl, rfl, rfl, hb⟩ := hrel
      have hbw : Below w1.heap.size w1 wr := hB3.trans (hb.mono hB3.size)
      have hbz := hbw.size
      obtain ⟨⟨s0, s1⟩, t0, t1⟩ := HSB.out k
      have hlk : (ts.take k).length ≤ 14 := by have := HL.out; simp; omega
      by_cases hlt : k < l
      · have hltT : k < ts.length := by have := HL.out; omega
        obtain ⟨g, rfl, hg1, hg2, c0, c1, c2⟩ := HC.out wr hbw k hltT
        have hgr : g < wr.heap.size := by omega
        obtain ⟨h0, h4⟩ := mark_h (HMK.out _ (List.getElem_mem hltT))
        have HS := Lib.hid (HSN.out k hltT)
        have m0 : 0 ≤ ts[k].h * ts[k].h := Int.mul_nonneg h0 h0
        have m1 : ts[k].h * ts[k].h ≤ 4 * 4 := Int.mul_le_mul h4 h4 h0 (by omega)
        generalize sumH (ts.take k) = sm at *
        generalize sqH (ts.take k) = sq at *
        generalize ts[k].h = mh at *
        generalize (ts.take k).length = lk at *
        obtain ⟨mm, hmm⟩ : ∃ x, mh * mh = x := ⟨_, rfl⟩
        rw [hmm] at m0 m1 HS
        have hw : IntKind.i64.wrap (mh * mh) = mm := by rw [hmm, IntWalk.i64_in _ (by omega)]
        have hw2 : RowKit.wrap64 (mh * mh) = mm := by rw [hmm]; exact IntWalk.wrap64_in _ (by omega)
        have hw3 : IntKind.i64.wrap (sq + mm) = sq + mm := by rw [IntWalk.i64_in _ (by omega)]
        have HF := Lib.hid (And.intro HS.out.1 HS.out.2)
        clear hmm
        go_wp2_with fail
        refine wp_region_quiet_lit (by kernel_rfl) (by kernel_rfl) ?_
        repeat (go_big_quiet_step (fail))
        refine wpQuiet_nil ?_
        rintro _ ⟨nq, rfl⟩
        have hbq : Below w3.heap.size w3 (wr.drewN nq) := by (repeat (first | (with_reducible assumption) | (with_reducible exact Below.refl _ _) | ((with_reducible refine Below.alloc ?_ ?hsz _); (case hsz => (first | omega | (simp; done) | (simp; omega) | (simp at *; omega)))) | ((with_reducible refine Below.setCell ?_ ?hsz _); (case hsz => (first | omega | (simp; done) | (simp; omega) | (simp at *; omega)))) | (with_reducible refine Below.drew ?_) | (with_reducible refine below_drewN ?_ _) | ((with_reducible refine Below.trans ?_ (Below.mono (by with_reducible assumption) ?hsz)); (case hsz => (first | omega | (simp; done) | (simp; omega) | (simp at *; omega))))))
        clear c0 c1 c2 hw hw2 hw3
        go_wp2_with fail
        go_roundw
        case rel => exact ⟨k + 1, by omega, by go_num, by rw [HF.out.1], by rw [HF.out.2], hbq⟩
        case measure => simp [intOf]; omega
      · have hk2 : k = l := by omega
        subst hk2
        have e1 : ts.take k = ts := List.take_of_length_le (by have := HL.out; omega)
        rw [e1] at s0 s1 t0 t1 hlk ⊢
        have hl14 : ts.length ≤ 14 := hlk
        have HE1 := Lib.hid (And.intro HE.out.1 HE.out.2.1)
        generalize sumH ts = sm at *
        generalize sqH ts = sq at *
        obtain ⟨f1, f2⟩ := HE1.out
        have m0 : 0 ≤ p * q := Int.mul_nonneg hp0 hq0
        have m1 : p * q ≤ 28 * 28 := Int.mul_le_mul hp1 hq1 hq0 (by omega)
        have HQ := Lib.hid HE.out.2.2
        have hd1 : decide (p ≤ sm) = true := decide_eq_true f1
        have hd2 : decide (p * q ≤ sq) = true := decide_eq_true f2
        have hw : IntKind.i64.wrap (p * q) = p * q := by rw [IntWalk.i64_in _ (by omega)]
        have hw2 : RowKit.wrap64 (p * q) = p * q := IntWalk.wrap64_in _ (by omega)
        clear e1 f1 f2 hlt
        go_wp2_with fail
        with_reducible refine (carriesOf_any _ ts _ _ (hm.keep hbw)).mono ?_
        rintro e w6 ⟨rfl, hnn⟩
        have hB6 : Below w1.heap.size w1 w6 := hbw.trans (hnn.mono hbz)
        have hz6 := hB6.size
        rw [HQ.out]
        clear hnn
        go_wp2_with fail
        with_reducible refine (alive_any _).mono ?_
        rintro e w7 ⟨rfl, hnn⟩
        have hB7 : Below w1.heap.size w1 w7 := by (repeat (first | (with_reducible assumption) | (with_reducible exact Below.refl _ _) | ((with_reducible refine Below.alloc ?_ ?hsz _); (case hsz => (first | omega | (simp; done) | (simp; omega) | (simp at *; omega)))) | ((with_reducible refine Below.setCell ?_ ?hsz _); (case hsz => (first | omega | (simp; done) | (simp; omega) | (simp at *; omega)))) | (with_reducible refine Below.drew ?_) | (with_reducible refine below_drewN ?_ _) | ((with_reducible refine Below.trans ?_ (Below.mono (by with_reducible assumption) ?hsz)); (case hsz => (first | omega | (simp; done) | (simp; omega) | (simp at *; omega))))))
        have hzw7 := (hB7).size
        have hnw7 := hnn
        clear hnn
        go_wp2
        (go_ret; exact ⟨rfl, hBw1.trans (Below.mono (by with_reducible assumption) hBw1.size)⟩)

set_option maxRecDepth 100000 in
theorem contract (H : Type) (enc : TypeId × Value → H) (W : World) (base : Nat) (args : Array Value) (ds gs : List (DataW H)) (before : List MemPlace)
    (hval : ∀ (j : Nat) t v, Try.f4.params[j]? = some t → args[j]? = some v → Value.okWide Try.prog W .any base t v)
    (hW : DataW.Whole enc Try.prog Try.f4.params.toList Rows.fnLengthOfSpec.vars false W args.toList ds gs before) :
    Calls Try.prog 4 args W fun e W' => ∃ v, e = .returned v ∧ Rows.fnLengthOfSpec.post enc Try.prog Try.f4 false true false false W args v W' := by
  have hW' := hW
  obtain ⟨p, q, hA0, hV, rfl, hfz, hnd⟩ := hW
  have hA : DataW.TrodAll enc Try.prog W 0 (fun _ => true) true Try.f4.params.toList args.toList ds p := hA0
  rw [Try.params4] at hA hval
  obtain ⟨u0, us0, d0, ds0, p0, q0, hargs, rfl, rfl, g0, k0⟩ := trodAll_cons hA
  obtain ⟨rfl, rfl, rfl⟩ := trodAll_nil k0
  obtain rfl : args = #[u0] := by cases args; simp_all
  obtain ⟨rfl, rfl⟩ := trodVars_none hV
  obtain ⟨m0, e0⟩ := g0
  obtain ⟨s0, l0, f0, hh0⟩ := open_arg_bytes e0
  have f0' := one_of_cells Try.underlying22 (hval 0 _ _ rfl rfl) f0
  subst f0'
  refine (walk _ l0 W hh0).mono fun e W' ⟨he, hb⟩ => ?_
  subst he
  exact ⟨_, rfl, law_post Try.kids Try.full (by rw [Try.params4]; decide) rfl rfl Try.underlying4 hW' rfl rfl rfl hb⟩

set_option maxRecDepth 100000 in
theorem lifted (os : Os) (started : os.Started) (H : Type) (enc : TypeId × Value → H) :
    ReturnsInHanded {} Try.checked os 4 .any (Rows.fnLengthOfSpec.pre6 enc Try.prog Try.f4 Rows.fnLengthOfRow.domain false) (Rows.fnLengthOfSpec.post enc Try.prog Try.f4 false true false false) := by
  refine returnsInHanded_of_change (C := Try.checked) Try.own started (by kernel_rfl) Try.func4
    (ChangeSpec.witness6 (enc := enc) (C := Try.checked) false ⟨#[], #[.slice none 0 0], []⟩ 8 (by kernel_rfl) (by kernel_rfl) (by kernel_rfl) (by kernel_rfl)) ?_
  intro W base args ds gs before hval0 hW _ _
  exact contract H enc W base args ds gs before hval0 hW

theorem proved : Rows.FnLengthOfSaid :=
  OpenClaim.holds_of_wide 4 Try.f4 rfl rfl rfl rfl rfl rfl rfl ⟨rfl, rfl, rfl, rfl, rfl⟩ rfl rfl rfl rfl rfl (by kernel_rfl) Try.func4 (by kernel_rfl)
    (of_decide_eq_true (by kernel_rfl)) (by unfold Func.isWrapper; first | (rw [if_pos (by decide +kernel)]; kernel_rfl) | (rw [if_neg (by decide +kernel)]; exact ⟨rfl, rfl⟩))
    (fun os started H enc _ => lifted os started H enc)

end Go.Proofs.Ytaohjhehlkeckaa.lawLengthOf
