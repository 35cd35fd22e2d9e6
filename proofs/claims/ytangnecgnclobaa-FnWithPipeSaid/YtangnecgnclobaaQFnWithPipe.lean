/- FnWithPipe: for every code the law holds: the program's WithPipe answers as the model; it is a net with one pipe more, and a circulation of the net of before is one of it, if the pipe may be empty. No condition. -/
import Derived.Test.YtangnecgnclobaaL2
import Derived.Test.YtangnecgnclobaaGE6
import Derived.Test.YtangnecgnclobaaGE2
import Derived.Test.YtangnecgnclobaaZ2
import Derived.Test.YtangnecgnclobaaY4
namespace Go.Proofs.Ytangnecgnclobaa.lawWithPipe
open Go.ChangeShapes Go.WideShapes Go.ChangeAt Go.RowKit Go.Deep Go.Joins

theorem room_app (s : Int) (ps : List Pp) (q : Pp) : room s (ps ++ [q]) = room s ps + acT s q q.mo q.le := by simp [room]

theorem still {n : Int} {ps : List Pp} {q : Pp} (hw : withB n ps q = true) (hc : circB n ps = true) (hq : q.le ≤ 0) : circB n (ps ++ [q]) = true := by
  rw [← Bool.not_eq_false]
  intro h
  obtain ⟨s, s0, s1, hs⟩ := (circ_blocks hw).1 h
  rw [room_app] at hs
  have h0 : 0 ≤ room s ps := by
    apply Classical.byContradiction
    intro hn
    have := (circ_blocks (with_net hw)).2 ⟨s, s0, s1, by omega⟩
    rw [this] at hc
    cases hc
  have hp := pipeOk_parts ((netOk_parts hw).2.2.2 q (by simp))
  unfold acT at hs
  split at hs
  · omega
  · split at hs <;> omega

set_option maxRecDepth 20000 in
set_option maxHeartbeats 4000000 in
set_option maxRecDepth 20000 in
theorem walk (v : Value) (n : Nat) (w : World) (h : ArgBytes w v n) :
    Calls Try.prog 6 #[v] w fun e w' => e = .returned (.bool true) ∧ Below w.heap.size w w' := by
  obtain ⟨A, c, rfl, hc1, hc2, -⟩ := id h
  unfold maxLen at hc2
  by_cases hbig : 1048576 < n
  · go_enter Try.func6, Try.ntmps6
    go_wp2
    go_ret
    exact ⟨rfl, by (repeat (first | (with_reducible assumption) | (with_reducible exact Below.refl _ _) | ((with_reducible refine Below.alloc ?_ ?hsz _); (case hsz => (first | omega | (simp; done) | (simp; omega) | (simp at *; omega)))) | ((with_reducible refine Below.setCell ?_ ?hsz _); (case hsz => (first | omega | (simp; done) | (simp; omega) | (simp at *; omega)))) | (with_reducible refine Below.drew ?_) | (with_reducible refine below_drewN ?_ _) | ((with_reducible refine Below.trans ?_ (Below.mono (by with_reducible assumption) ?hsz)); (case hsz => (first | omega | (simp; done) | (simp; omega) | (simp at *; omega))))))⟩
  go_enter Try.func6, Try.ntmps6
  go_wp2_with fail
  with_reducible refine (drawWithPipe_any _ n _ (h.keep (by (repeat (first | (with_reducible assumption) | (with_reducible exact Below.refl _ _) | ((with_reducible refine Below.alloc ?_ ?hsz _); (case hsz => (first | omega | (simp; done) | (simp; omega) | (simp at *; omega)))) | ((with_reducible refine Below.setCell ?_ ?hsz _); (case hsz => (first | omega | (simp; done) | (simp; omega) | (simp at *; omega)))) | (with_reducible refine Below.drew ?_) | (with_reducible refine below_drewN ?_ _) | ((with_reducible refine Below.trans ?_ (Below.mono (by with_reducible assumption) ?hsz)); (case hsz => (first | omega | (simp; done) | (simp; omega) | (simp at *; omega))))))))).mono ?_
  rintro e w1 ⟨z, ps, u, q, rfl, hp, hb1, hl8⟩
  have hBw1 : Below w.heap.size w w1 := by (repeat (first | (with_reducible assumption) | (with_reducible exact Below.refl _ _) | ((with_reducible refine Below.alloc ?_ ?hsz _); (case hsz => (first | omega | (simp; done) | (simp; omega) | (simp at *; omega)))) | ((with_reducible refine Below.setCell ?_ ?hsz _); (case hsz => (first | omega | (simp; done) | (simp; omega) | (simp at *; omega)))) | (with_reducible refine Below.drew ?_) | (with_reducible refine below_drewN ?_ _) | ((with_reducible refine Below.trans ?_ (Below.mono (by with_reducible assumption) ?hsz)); (case hsz => (first | omega | (simp; done) | (simp; omega) | (simp at *; omega))))))
  clear h hc1 hc2 hbig
  obtain ⟨A1, c1, rfl, hk1, hk2, hsm, -⟩ := hp.form
  unfold maxLen at hk2
  have bx1 : Box2 (w1.alloc (.cells #[.int .i64 z, .slice A1 ps.length c1] 32)) w1.heap.size (.int .i64 z) (.slice A1 ps.length c1) := Box2.new _ _ _ _
  have hB1 : Below w1.heap.size w1 (w1.alloc (.cells #[.int .i64 z, .slice A1 ps.length c1] 32)) := by (repeat (first | (with_reducible assumption) | (with_reducible exact Below.refl _ _) | ((with_reducible refine Below.alloc ?_ ?hsz _); (case hsz => (first | omega | (simp; done) | (simp; omega) | (simp at *; omega)))) | ((with_reducible refine Below.setCell ?_ ?hsz _); (case hsz => (first | omega | (simp; done) | (simp; omega) | (simp at *; omega)))) | (with_reducible refine Below.drew ?_) | (with_reducible refine below_drewN ?_ _) | ((with_reducible refine Below.trans ?_ (Below.mono (by with_reducible assumption) ?hsz)); (case hsz => (first | omega | (simp; done) | (simp; omega) | (simp at *; omega))))))
  obtain ⟨nn, PS, wb, HT⟩ : ∃ nn PS wb, Hid (withN z ps q = nn ∧ withL z ps q = PS ∧ withB z ps q = wb) := ⟨_, _, _, Lib.hid ⟨rfl, rfl, rfl⟩⟩
  have px2 : Box5 ((w1.alloc (.cells #[.int .i64 z, .slice A1 ps.length c1] 32)).alloc (.cells #[.int .i64 q.fr, .int .i64 q.to, .int .i64 q.le, .int .i64 q.mo, .int .i64 q.co] 37)) (w1.heap.size + 1) q := Box5.new _ _ _ _ _ _ _ (by simp)
  have bx2 := bx1.keep ((Below.refl _ _).alloc (Nat.le_refl _) (.cells #[.int .i64 q.fr, .int .i64 q.to, .int .i64 q.le, .int .i64 q.mo, .int .i64 q.co] 37))
  have hB2 := hB1.alloc hB1.size (.cells #[.int .i64 q.fr, .int .i64 q.to, .int .i64 q.le, .int .i64 q.mo, .int .i64 q.co] 37)
  clear bx1
  obtain ⟨bs, d0, d1, g0, g1⟩ := id bx2
  obtain ⟨pz, p0, p1, p2, p3, p4, -⟩ := id px2
  go_wp2_with fail
  with_reducible refine (withPipe_any z _ ps q _ _ (hp.keep hB2) (by omega)).mono ?_
  rintro e w3 ⟨s3, rfl, hs3, hnn⟩
  have bx3 := bx2.keep hnn
  have px3 := px2.grown (grow_below (grow_refl _ none) hnn) (by simp)
  have hB3 : Below w1.heap.size w1 w3 := hB2.trans (hnn.mono hB2.size)
  rw [HT.out.2.1] at hs3
  rw [HT.out.1, HT.out.2.2]
  clear hnn bs d0 d1 g0 g1 pz p0 p1 p2 p3 p4 bx2 px2 hB1 hB2
  obtain ⟨PA, pc, rfl, hk3, hk3', hsm3, -⟩ := hs3.form
  unfold maxLen at hk3'
  have hlP := withL_len z ps q
  rw [HT.out.2.1] at hlP
  have by4 : Box2 (w3.alloc (.cells #[.int .i64 nn, .slice PA PS.length pc] 32)) w3.heap.size (.int .i64 nn) (.slice PA PS.length pc) := Box2.new _ _ _ _
  have bx4 := bx3.keep ((Below.refl _ _).alloc (Nat.le_refl _) (.cells #[.int .i64 nn, .slice PA PS.length pc] 32))
  have px4 := px3.grown (grow_alloc (grow_refl _ none) (.cells #[.int .i64 nn, .slice PA PS.length pc] 32)) (by simp)
  have hs4 := hs3.alloc' (.cells #[.int .i64 nn, .slice PA PS.length pc] 32)
  have hB4 := hB3.alloc hB3.size (.cells #[.int .i64 nn, .slice PA PS.length pc] 32)
  clear bx3 px3 hs3
  obtain ⟨bs, d0, d1, g0, g1⟩ := id bx4
  obtain ⟨bt, e0, e1, h0, h1⟩ := id by4
  obtain ⟨pz, p0, p1, p2, p3, p4, -⟩ := id px4
  go_wp2_with fail
  with_reducible refine (specWithPipe_any z _ ps q _ _ (hp.keep hB4) (by omega)).mono ?_
  rintro e w5 ⟨s5, rfl, hs5, hnn⟩
  have bx5 := bx4.keep hnn
  have by5 := by4.keep hnn
  have px5 := px4.grown (grow_below (grow_refl _ none) hnn) (by simp)
  have hx5 := hs4.keep hnn
  have hB5 : Below w1.heap.size w1 w5 := hB4.trans (hnn.mono hB4.size)
  rw [HT.out.2.1] at hs5
  rw [HT.out.1, HT.out.2.2]
  clear hnn bs d0 d1 g0 g1 bt e0 e1 h0 h1 pz p0 p1 p2 p3 p4 bx4 by4 px4 hs4 hB4 hB3
  obtain ⟨QA, qc, rfl, hk5, hk5', hsm5, -⟩ := hs5.form
  unfold maxLen at hk5'
  have bz6 : Box2 (w5.alloc (.cells #[.int .i64 nn, .slice QA PS.length qc] 32)) w5.heap.size (.int .i64 nn) (.slice QA PS.length qc) := Box2.new _ _ _ _
  have bx6 := bx5.keep ((Below.refl _ _).alloc (Nat.le_refl _) (.cells #[.int .i64 nn, .slice QA PS.length qc] 32))
  have by6 := by5.keep ((Below.refl _ _).alloc (Nat.le_refl _) (.cells #[.int .i64 nn, .slice QA PS.length qc] 32))
  have px6 := px5.grown (grow_alloc (grow_refl _ none) (.cells #[.int .i64 nn, .slice QA PS.length qc] 32)) (by simp)
  have hx6 := hx5.alloc' (.cells #[.int .i64 nn, .slice QA PS.length qc] 32)
  have hy6 := hs5.alloc' (.cells #[.int .i64 nn, .slice QA PS.length qc] 32)
  have hB6 := hB5.alloc hB5.size (.cells #[.int .i64 nn, .slice QA PS.length qc] 32)
  clear bx5 by5 px5 hx5 hs5
  obtain ⟨bs, d0, d1, g0, g1⟩ := id bx6
  obtain ⟨bt, e0, e1, h0, h1⟩ := id by6
  obtain ⟨bu, f0, f1, i0, i1⟩ := id bz6
  go_wp2_with fail
  with_reducible refine (sameNet_any nn nn _ _ PS PS _ _ _ hx6 hy6).mono ?_
  rintro e w7 ⟨rfl, hnn⟩
  have bx7 := bx6.keep hnn
  have by7 := by6.keep hnn
  have px7 := px6.grown (grow_below (grow_refl _ none) hnn) (by simp)
  have hx7 := hx6.keep hnn
  have hB7 : Below w1.heap.size w1 w7 := hB6.trans (hnn.mono hB6.size)
  clear hnn bs d0 d1 g0 g1 bt e0 e1 h0 h1 bu f0 f1 i0 i1 bx6 by6 bz6 px6 hx6 hy6 hB6 hB5
  obtain ⟨bs, d0, d1, g0, g1⟩ := id bx7
  obtain ⟨bt, e0, e1, h0, h1⟩ := id by7
  cases wb with
  | false =>
    obtain ⟨t1, t2⟩ := with_no HT.out.2.2
    obtain rfl : nn = 0 := HT.out.1.symm.trans t1
    obtain rfl : PS = [] := HT.out.2.1.symm.trans t2
    clear t1 t2 hlP
    simp only [List.length_nil] at *
    go_wp2_with fail
    with_reducible refine (sameNet_any 0 0 _ _ [] [] _ 0 _ hx7 (Pipes_nil _ _)).mono ?_
    rintro e w8 ⟨rfl, hn8⟩
    go_wp2_with fail
    with_reducible refine (alive_any _).mono ?_
    rintro e w9 ⟨rfl, hn9⟩
    have hs7 := hB7.size
    have hs8 := hn8.size
    have hB9 : Below w1.heap.size w1 w9 := by (repeat (first | (with_reducible assumption) | (with_reducible exact Below.refl _ _) | ((with_reducible refine Below.alloc ?_ ?hsz _); (case hsz => (first | omega | (simp; done) | (simp; omega) | (simp at *; omega)))) | ((with_reducible refine Below.setCell ?_ ?hsz _); (case hsz => (first | omega | (simp; done) | (simp; omega) | (simp at *; omega)))) | (with_reducible refine Below.drew ?_) | (with_reducible refine below_drewN ?_ _) | ((with_reducible refine Below.trans ?_ (Below.mono (by with_reducible assumption) ?hsz)); (case hsz => (first | omega | (simp; done) | (simp; omega) | (simp at *; omega))))))
    go_wp2
    (go_ret; exact ⟨rfl, hBw1.trans (Below.mono (by with_reducible assumption) hBw1.size)⟩)
  | true =>
    obtain ⟨t1, t2⟩ := with_yes HT.out.2.2
    have HZ := Lib.hid (And.intro (HT.out.1.symm.trans t1) (HT.out.2.1.symm.trans t2))
    clear t1 t2
    go_wp2_with fail
    refine (circ_any z _ ps _ _ (hp.keep hB7)).mono ?_
    rintro e w8 ⟨r8, rfl, -, hnn⟩
    have bx8 := bx7.keep hnn
    have by8 := by7.keep hnn
    have px8 := px7.grown (grow_below (grow_refl _ none) hnn) (by simp)
    have hx8 := hx7.keep hnn
    have hB8 : Below w1.heap.size w1 w8 := hB7.trans (hnn.mono hB7.size)
    clear hnn bs d0 d1 g0 g1 bt e0 e1 h0 h1 bx7 by7 px7 hx7 hB7
    obtain ⟨bs, d0, d1, g0, g1⟩ := id bx8
    obtain ⟨bt, e0, e1, h0, h1⟩ := id by8
    obtain ⟨c0, hc0⟩ : ∃ c0, circB z ps = c0 := ⟨_, rfl⟩
    rw [hc0]
    have HC0 := Lib.hid hc0
    clear hc0
    go_wp2_with fail
    refine (circ_any nn _ PS _ _ hx8).mono ?_
    rintro e w9 ⟨r9, rfl, -, hnn⟩
    have bx9 := bx8.keep hnn
    have by9 := by8.keep hnn
    have px9 := px8.grown (grow_below (grow_refl _ none) hnn) (by simp)
    have hx9 := hx8.keep hnn
    have hB9 : Below w1.heap.size w1 w9 := hB8.trans (hnn.mono hB8.size)
    clear hnn bs d0 d1 g0 g1 bt e0 e1 h0 h1 bx8 by8 px8 hx8 hB8
    obtain ⟨bs, d0, d1, g0, g1⟩ := id bx9
    obtain ⟨bt, e0, e1, h0, h1⟩ := id by9
    obtain ⟨c2, hc2⟩ : ∃ c2, circB nn PS = c2 := ⟨_, rfl⟩
    rw [hc2]
    have HC2 : Hid (c0 = true → q.le ≤ 0 → c2 = true) := Lib.hid (fun a b => by
      rw [← hc2, HZ.out.1, HZ.out.2]
      exact still HT.out.2.2 (HC0.out.trans a) b)
    clear hc2
    have hok : netOkB nn PS = true := by
      rw [HZ.out.1, HZ.out.2]
      exact HT.out.2.2
    have hlen : PS.length = ps.length + 1 := by rw [HZ.out.2]; simp
    have hcmp : ((PS.length : Int) == (ps.length : Int) + 1) = true := by rw [hlen]; simp
    have hwr : IntKind.i64.wrap ((ps.length : Int) + 1) = (ps.length : Int) + 1 := IntWalk.i64_in _ (by omega)
    have HLEN := Lib.hid (And.intro hlen (And.intro hcmp hwr))
    clear hlen hcmp hwr
    go_wp2_with fail
    refine (netOk_any nn _ PS _ _ hx9).mono ?_
    rintro e w10 ⟨rfl, hnn⟩
    have bx10 := bx9.keep hnn
    have by10 := by9.keep hnn
    have px10 := px9.grown (grow_below (grow_refl _ none) hnn) (by simp)
    have hB10 : Below w1.heap.size w1 w10 := hB9.trans (hnn.mono hB9.size)
    clear hnn bs d0 d1 g0 g1 bt e0 e1 h0 h1 bx9 by9 px9 hx9 hB9
    obtain ⟨bs, d0, d1, g0, g1⟩ := id bx10
    obtain ⟨bt, e0, e1, h0, h1⟩ := id by10
    obtain ⟨pz, p0, p1, p2, p3, p4, -⟩ := id px10
    rw [hok]
    clear hok
    obtain ⟨-, hcmp, hwr⟩ := id HLEN.out
    cases c0 with
    | false =>
      go_wp2
      (go_ret; exact ⟨rfl, hBw1.trans (Below.mono (by with_reducible assumption) hBw1.size)⟩)
    | true =>
      by_cases hle : 0 < q.le
      · go_wp2
        (go_ret; exact ⟨rfl, hBw1.trans (Below.mono (by with_reducible assumption) hBw1.size)⟩)
      · obtain rfl : c2 = true := HC2.out rfl (by omega)
        go_wp2
        (go_ret; exact ⟨rfl, hBw1.trans (Below.mono (by with_reducible assumption) hBw1.size)⟩)

set_option maxRecDepth 100000 in
theorem contract (H : Type) (enc : TypeId × Value → H) (W : World) (base : Nat) (args : Array Value) (ds gs : List (DataW H)) (before : List MemPlace)
    (hval : ∀ (j : Nat) t v, Try.f6.params[j]? = some t → args[j]? = some v → Value.okWide Try.prog W .any base t v)
    (hW : DataW.Whole enc Try.prog Try.f6.params.toList Rows.fnWithPipeSpec.vars false W args.toList ds gs before) :
    Calls Try.prog 6 args W fun e W' => ∃ v, e = .returned v ∧ Rows.fnWithPipeSpec.post enc Try.prog Try.f6 false true false false W args v W' := by
  have hW' := hW
  obtain ⟨p, q, hA0, hV, rfl, hfz, hnd⟩ := hW
  have hA : DataW.TrodAll enc Try.prog W 0 (fun _ => true) true Try.f6.params.toList args.toList ds p := hA0
  rw [Try.params6] at hA hval
  obtain ⟨u0, us0, d0, ds0, p0, q0, hargs, rfl, rfl, g0, k0⟩ := trodAll_cons hA
  obtain ⟨rfl, rfl, rfl⟩ := trodAll_nil k0
  obtain rfl : args = #[u0] := by cases args; simp_all
  obtain ⟨rfl, rfl⟩ := trodVars_none hV
  obtain ⟨m0, e0⟩ := g0
  obtain ⟨s0, l0, f0, hh0⟩ := open_arg_bytes e0
  have f0' := one_of_cells Try.underlying22 (hval 0 _ _ rfl rfl) f0
  subst f0'
  refine (walk _ l0 W hh0).mono fun e W' ⟨he, hb⟩ => ?_
  subst he
  exact ⟨_, rfl, law_post Try.kids Try.full (by rw [Try.params6]; decide) rfl rfl Try.underlying4 hW' rfl rfl rfl hb⟩

set_option maxRecDepth 100000 in
theorem lifted (os : Os) (started : os.Started) (H : Type) (enc : TypeId × Value → H) :
    ReturnsInHanded {} Try.checked os 6 .any (Rows.fnWithPipeSpec.pre6 enc Try.prog Try.f6 Rows.fnWithPipeRow.domain false) (Rows.fnWithPipeSpec.post enc Try.prog Try.f6 false true false false) := by
  refine returnsInHanded_of_change (C := Try.checked) Try.own started (by kernel_rfl) Try.func6
    (ChangeSpec.witness6 (enc := enc) (C := Try.checked) false ⟨#[], #[.slice none 0 0], []⟩ 8 (by kernel_rfl) (by kernel_rfl) (by kernel_rfl) (by kernel_rfl)) ?_
  intro W base args ds gs before hval0 hW _ _
  exact contract H enc W base args ds gs before hval0 hW

theorem proved : Rows.FnWithPipeSaid :=
  OpenClaim.holds_of_wide 6 Try.f6 rfl rfl rfl rfl rfl rfl rfl ⟨rfl, rfl, rfl, rfl, rfl⟩ rfl rfl rfl rfl rfl (by kernel_rfl) Try.func6 (by kernel_rfl)
    (of_decide_eq_true (by kernel_rfl)) (by unfold Func.isWrapper; first | (rw [if_pos (by decide +kernel)]; kernel_rfl) | (rw [if_neg (by decide +kernel)]; exact ⟨rfl, rfl⟩))
    (fun os started H enc _ => lifted os started H enc)

end Go.Proofs.Ytangnecgnclobaa.lawWithPipe
