/- FnBlockingSide: for every code the law holds: the program tells the first side that blocks as its model does; its room is less than 0, and that of no lesser side; and of the turned net there is a side that blocks, too. No condition. -/
import Derived.Test.YtphbmlephldaaaaG1
import Derived.Test.YtphbmlephldaaaaDV
import Derived.Test.YtphbmlephldaaaaY1
import Derived.Test.YtphbmlephldaaaaZ1
import Derived.Test.YtphbmlephldaaaaW5
import Derived.Test.YtphbmlephldaaaaW8
import Derived.Test.YtphbmlephldaaaaMG
namespace Go.Proofs.Ytphbmlephldaaaa.lawBlockingSide
open Go.ChangeShapes Go.WideShapes Go.ChangeAt Go.RowKit Go.Deep Go.Joins

theorem block_rooms {n : Int} {ps : List Pp} {q : Nat} (h : blockO n ps = some q) : netOkB n ps = true ∧ (q : Int) ≤ 2 ^ n.toNat - 1 ∧ room (q : Int) ps < 0 ∧ ∀ k : Nat, k < q → ¬ room (k : Int) ps < 0 := by
  have hok : netOkB n ps = true := by
    rcases hok : netOkB n ps with _ | _
    · rw [blockO_no hok] at h; cases h
    · rfl
  rw [blockO_yes hok] at h
  rw [List.find?_eq_some_iff_getElem] at h
  obtain ⟨h1, i, hi, e, h2⟩ := h
  rw [List.getElem_range] at e
  subst e
  rw [List.length_range] at hi
  refine ⟨hok, ?_, by simpa [blockF] using h1, fun k hk => ?_⟩
  · have h3 : i + 1 ≤ 2 ^ n.toNat := hi
    have : ((i + 1 : Nat) : Int) ≤ ((2 ^ n.toNat : Nat) : Int) := Int.ofNat_le.2 h3
    simp at this
    omega
  · have := h2 k hk
    rw [List.getElem_range] at this
    simpa [blockF] using this

theorem turn_blocks {n : Int} {ps : List Pp} {q : Nat} (h : blockO n ps = some q) : (blockR n (ps.map turnP)).2 = true := by
  obtain ⟨hok, hq, hr, -⟩ := block_rooms h
  have hs : sideB n ps (q : Int) = true := side_of hok (by omega) hq
  have hokT : netOkB n (ps.map turnP) = true := by rw [netOk_turn]; exact hok
  have hsT : sideB n (ps.map turnP) (q : Int) = true := by rw [side_turn]; exact hs
  have hrT : room (lack n q) (ps.map turnP) < 0 := by
    rw [room_lack hsT, turn_turn]
    exact hr
  rcases ho : blockO n (ps.map turnP) with _ | k
  · exfalso
    rw [blockO_yes hokT, List.find?_eq_none] at ho
    obtain ⟨l, hl⟩ : ∃ l : Nat, lack n (q : Int) = (l : Int) := ⟨(lack n (q : Int)).toNat, by rw [Int.toNat_of_nonneg]; unfold lack; omega⟩
    have hlt : l < 2 ^ n.toNat := by
      have h1 : lack n (q : Int) ≤ 2 ^ n.toNat - 1 := by unfold lack; omega
      rw [hl] at h1
      have : ((l : Nat) : Int) < ((2 ^ n.toNat : Nat) : Int) := by simp; omega
      exact Int.ofNat_lt.1 this
    have := ho l (List.mem_range.2 hlt)
    rw [hl] at hrT
    simp [blockF] at this
    omega
  · rw [block_some ho]

set_option maxRecDepth 20000 in
set_option maxHeartbeats 2000000 in
set_option maxRecDepth 20000 in
theorem walk (v : Value) (n : Nat) (w : World) (h : ArgBytes w v n) :
    Calls Try.prog 4 #[v] w fun e w' => e = .returned (.bool true) ∧ Below w.heap.size w w' := by
  obtain ⟨A, c, rfl, hc1, hc2, -⟩ := id h
  unfold maxLen at hc2
  by_cases hbig : 1048576 < n
  · go_enter Try.func4, Try.ntmps4
    go_wp2
    go_ret
    exact ⟨rfl, by (repeat (first | (with_reducible assumption) | (with_reducible exact Below.refl _ _) | ((with_reducible refine Below.alloc ?_ ?hsz _); (case hsz => (first | omega | (simp; done) | (simp; omega) | (simp at *; omega)))) | ((with_reducible refine Below.setCell ?_ ?hsz _); (case hsz => (first | omega | (simp; done) | (simp; omega) | (simp at *; omega)))) | (with_reducible refine Below.drew ?_) | (with_reducible refine below_drewN ?_ _) | ((with_reducible refine Below.trans ?_ (Below.mono (by with_reducible assumption) ?hsz)); (case hsz => (first | omega | (simp; done) | (simp; omega) | (simp at *; omega))))))⟩
  go_enter Try.func4, Try.ntmps4
  go_wp2_with fail
  with_reducible refine (drawBlockingSide_any _ n _ (h.keep (by (repeat (first | (with_reducible assumption) | (with_reducible exact Below.refl _ _) | ((with_reducible refine Below.alloc ?_ ?hsz _); (case hsz => (first | omega | (simp; done) | (simp; omega) | (simp at *; omega)))) | ((with_reducible refine Below.setCell ?_ ?hsz _); (case hsz => (first | omega | (simp; done) | (simp; omega) | (simp at *; omega)))) | (with_reducible refine Below.drew ?_) | (with_reducible refine below_drewN ?_ _) | ((with_reducible refine Below.trans ?_ (Below.mono (by with_reducible assumption) ?hsz)); (case hsz => (first | omega | (simp; done) | (simp; omega) | (simp at *; omega))))))))).mono ?_
  rintro e w1 ⟨z, ps, u, rfl, hp, hb1, hl8, hz1, hz6⟩
  have hBw1 : Below w.heap.size w w1 := by (repeat (first | (with_reducible assumption) | (with_reducible exact Below.refl _ _) | ((with_reducible refine Below.alloc ?_ ?hsz _); (case hsz => (first | omega | (simp; done) | (simp; omega) | (simp at *; omega)))) | ((with_reducible refine Below.setCell ?_ ?hsz _); (case hsz => (first | omega | (simp; done) | (simp; omega) | (simp at *; omega)))) | (with_reducible refine Below.drew ?_) | (with_reducible refine below_drewN ?_ _) | ((with_reducible refine Below.trans ?_ (Below.mono (by with_reducible assumption) ?hsz)); (case hsz => (first | omega | (simp; done) | (simp; omega) | (simp at *; omega))))))
  clear h hc1 hc2 hbig
  obtain ⟨A1, c1, rfl, hk1, hk2, hsm, -⟩ := hp.form
  unfold maxLen at hk2
  have bx1 : Box2 (w1.alloc (.cells #[.int .i64 z, .slice A1 ps.length c1] 25)) w1.heap.size (.int .i64 z) (.slice A1 ps.length c1) := Box2.new _ _ _ _
  have hB1 : Below w1.heap.size w1 (w1.alloc (.cells #[.int .i64 z, .slice A1 ps.length c1] 25)) := by (repeat (first | (with_reducible assumption) | (with_reducible exact Below.refl _ _) | ((with_reducible refine Below.alloc ?_ ?hsz _); (case hsz => (first | omega | (simp; done) | (simp; omega) | (simp at *; omega)))) | ((with_reducible refine Below.setCell ?_ ?hsz _); (case hsz => (first | omega | (simp; done) | (simp; omega) | (simp at *; omega)))) | (with_reducible refine Below.drew ?_) | (with_reducible refine below_drewN ?_ _) | ((with_reducible refine Below.trans ?_ (Below.mono (by with_reducible assumption) ?hsz)); (case hsz => (first | omega | (simp; done) | (simp; omega) | (simp at *; omega))))))
  obtain ⟨r, hr⟩ : ∃ r, r = blockR z ps := ⟨_, rfl⟩
  obtain ⟨s, ok⟩ := r
  have HR := Lib.hid hr
  obtain ⟨bs, d0, d1, g0, g1⟩ := id bx1
  have X1 := blockingSide_any z _ ps _ _ (hp.keep hB1)
  have X2 := fun W h => specBlockingSide_any z _ ps _ W (hp.keep h)
  rw [← hr] at X1
  simp only [← hr] at X2
  clear hr
  go_wp2_with fail
  with_reducible refine (X1).mono ?_
  rintro e w2 ⟨rfl, hnn⟩
  have bx2 := (bx1).keep hnn
  have hB2 : Below w1.heap.size w1 w2 := by (repeat (first | (with_reducible assumption) | (with_reducible exact Below.refl _ _) | ((with_reducible refine Below.alloc ?_ ?hsz _); (case hsz => (first | omega | (simp; done) | (simp; omega) | (simp at *; omega)))) | ((with_reducible refine Below.setCell ?_ ?hsz _); (case hsz => (first | omega | (simp; done) | (simp; omega) | (simp at *; omega)))) | (with_reducible refine Below.drew ?_) | (with_reducible refine below_drewN ?_ _) | ((with_reducible refine Below.trans ?_ (Below.mono (by with_reducible assumption) ?hsz)); (case hsz => (first | omega | (simp; done) | (simp; omega) | (simp at *; omega))))))
  clear hnn
  (try clear d0 d1 g0 g1)
  obtain ⟨bs, d0, d1, g0, g1⟩ := id bx2
  go_wp2_with fail
  with_reducible refine (X2 _ hB2).mono ?_
  rintro e w3 ⟨rfl, hnn⟩
  have bx3 := (bx2).keep hnn
  have hB3 : Below w1.heap.size w1 w3 := by (repeat (first | (with_reducible assumption) | (with_reducible exact Below.refl _ _) | ((with_reducible refine Below.alloc ?_ ?hsz _); (case hsz => (first | omega | (simp; done) | (simp; omega) | (simp at *; omega)))) | ((with_reducible refine Below.setCell ?_ ?hsz _); (case hsz => (first | omega | (simp; done) | (simp; omega) | (simp at *; omega)))) | (with_reducible refine Below.drew ?_) | (with_reducible refine below_drewN ?_ _) | ((with_reducible refine Below.trans ?_ (Below.mono (by with_reducible assumption) ?hsz)); (case hsz => (first | omega | (simp; done) | (simp; omega) | (simp at *; omega))))))
  clear hnn
  (try clear d0 d1 g0 g1)
  obtain ⟨bs, d0, d1, g0, g1⟩ := id bx3
  clear X1 X2
  rcases ho : blockO z ps with _ | q
  · obtain ⟨rfl, rfl⟩ : s = -1 ∧ ok = false := by
      have := HR.out
      rw [block_none ho] at this
      exact ⟨congrArg Prod.fst this, congrArg Prod.snd this⟩
    go_wp2_with fail
    with_reducible refine (alive_any _).mono ?_
    rintro e w4 ⟨rfl, hnn⟩
    have bx4 := (bx3).keep hnn
    have hB4 : Below w1.heap.size w1 w4 := by (repeat (first | (with_reducible assumption) | (with_reducible exact Below.refl _ _) | ((with_reducible refine Below.alloc ?_ ?hsz _); (case hsz => (first | omega | (simp; done) | (simp; omega) | (simp at *; omega)))) | ((with_reducible refine Below.setCell ?_ ?hsz _); (case hsz => (first | omega | (simp; done) | (simp; omega) | (simp at *; omega)))) | (with_reducible refine Below.drew ?_) | (with_reducible refine below_drewN ?_ _) | ((with_reducible refine Below.trans ?_ (Below.mono (by with_reducible assumption) ?hsz)); (case hsz => (first | omega | (simp; done) | (simp; omega) | (simp at *; omega))))))
    clear hnn
    (try clear d0 d1 g0 g1)
    obtain ⟨bs, d0, d1, g0, g1⟩ := id bx4
    go_wp2
    (go_ret; exact ⟨rfl, hBw1.trans (Below.mono (by with_reducible assumption) hBw1.size)⟩)
  · obtain ⟨rfl, rfl⟩ : s = (q : Int) ∧ ok = true := by
      have := HR.out
      rw [block_some ho] at this
      exact ⟨congrArg Prod.fst this, congrArg Prod.snd this⟩
    obtain ⟨hok, hq, hq1, hq2⟩ := block_rooms ho
    have hpw := pow_le5 (netOk_parts hok).2.1
    have HT := Lib.hid (And.intro hok (turn_blocks ho))
    have H2 := Lib.hid (And.intro hq (And.intro hq1 hq2))
    clear ho hq1 hq2 hok HR
    go_wp2_with fail
    go_loopw [8] (fun t wr => ∃ k : Nat, k ≤ q + 1 ∧ t = .int .i64 k ∧ Box2 wr w1.heap.size (.int .i64 z) (.slice A1 ps.length c1) ∧ Below w1.heap.size w1 wr) (fun t _ => q + 1 - (intOf t).toNat)
    case atStart => exact ⟨0, by omega, rfl, bx3, hB3⟩
    case round =>
      obtain ⟨k, hk, rfl, bx, hB⟩ := hrel
      clear d0 d1 g0 g1
      obtain ⟨bs, d0, d1, g0, g1⟩ := id bx
      by_cases hlt : k ≤ q
      · have hs := room_yes (side_of (s := (k : Int)) HT.out.1 (by omega) (by have := H2.out.1; omega))
        have X := roomOfTop_any z (k : Int) _ ps _ _ (hp.keep hB)
        rw [hs.1, hs.2] at X
        clear hs
        go_wp2_with fail
        with_reducible refine (X).mono ?_
        rintro e w4 ⟨rfl, hnn⟩
        have bx4 := (bx).keep hnn
        have hB4 : Below w1.heap.size w1 w4 := by (repeat (first | (with_reducible assumption) | (with_reducible exact Below.refl _ _) | ((with_reducible refine Below.alloc ?_ ?hsz _); (case hsz => (first | omega | (simp; done) | (simp; omega) | (simp at *; omega)))) | ((with_reducible refine Below.setCell ?_ ?hsz _); (case hsz => (first | omega | (simp; done) | (simp; omega) | (simp at *; omega)))) | (with_reducible refine Below.drew ?_) | (with_reducible refine below_drewN ?_ _) | ((with_reducible refine Below.trans ?_ (Below.mono (by with_reducible assumption) ?hsz)); (case hsz => (first | omega | (simp; done) | (simp; omega) | (simp at *; omega))))))
        clear hnn
        (try clear d0 d1 g0 g1)
        obtain ⟨bs, d0, d1, g0, g1⟩ := id bx4
        by_cases hkq : k = q
        · subst hkq
          have hneg : decide (room (k : Int) ps < 0) = true := decide_eq_true H2.out.2.1
          go_wp2
          go_roundw
          case rel => exact ⟨k + 1, by omega, by go_num, bx4, hB4⟩
          case measure => first | (simp [intOf]; done) | (simp [intOf]; omega)
        · have hneg : decide (room (k : Int) ps < 0) = false := decide_eq_false (by have := H2.out.2.2 k (by omega); omega)
          have hne : ((k : Int) == (q : Int)) = false := by rw [beq_eq_false_iff_ne]; omega
          go_wp2
          go_roundw
          case rel => exact ⟨k + 1, by omega, by go_num, bx4, hB4⟩
          case measure => first | (simp [intOf]; done) | (simp [intOf]; omega)
      · go_wp2_with fail
        obtain ⟨t1, t2⟩ := turn_yes HT.out.1
        have X := turned_any z _ ps _ _ (hp.keep hB)
        obtain ⟨qs, hqs⟩ : ∃ qs, qs = ps.map turnP := ⟨_, rfl⟩
        have hTB := HT.out.2
        rw [← hqs] at hTB
        rw [t1, t2, ← hqs] at X
        clear t2 hqs
        with_reducible refine X.mono ?_
        clear X
        rintro e w4 ⟨s4, rfl, hq4, hn4⟩
        have hB4 : Below w1.heap.size w1 w4 := by (repeat (first | (with_reducible assumption) | (with_reducible exact Below.refl _ _) | ((with_reducible refine Below.alloc ?_ ?hsz _); (case hsz => (first | omega | (simp; done) | (simp; omega) | (simp at *; omega)))) | ((with_reducible refine Below.setCell ?_ ?hsz _); (case hsz => (first | omega | (simp; done) | (simp; omega) | (simp at *; omega)))) | (with_reducible refine Below.drew ?_) | (with_reducible refine below_drewN ?_ _) | ((with_reducible refine Below.trans ?_ (Below.mono (by with_reducible assumption) ?hsz)); (case hsz => (first | omega | (simp; done) | (simp; omega) | (simp at *; omega))))))
        obtain ⟨A4, c4, rfl, hk4, hk4', hsm4, -⟩ := hq4.form
        unfold maxLen at hk4'
        go_wp2_with fail
        with_reducible refine (blockingSide_any z _ qs _ _ hq4).mono ?_
        rintro e w5 ⟨rfl, hn5⟩
        have hB5 : Below w1.heap.size w1 w5 := hB4.trans (hn5.mono hB4.size)
        rw [hTB]
        go_wp2
        (go_ret; exact ⟨rfl, hBw1.trans (Below.mono (by with_reducible assumption) hBw1.size)⟩)

set_option maxRecDepth 100000 in
theorem contract (H : Type) (enc : TypeId × Value → H) (W : World) (base : Nat) (args : Array Value) (ds gs : List (DataW H)) (before : List MemPlace)
    (hval : ∀ (j : Nat) t v, Try.f4.params[j]? = some t → args[j]? = some v → Value.okWide Try.prog W .any base t v)
    (hW : DataW.Whole enc Try.prog Try.f4.params.toList Rows.fnBlockingSideSpec.vars false W args.toList ds gs before) :
    Calls Try.prog 4 args W fun e W' => ∃ v, e = .returned v ∧ Rows.fnBlockingSideSpec.post enc Try.prog Try.f4 false true false false W args v W' := by
  have hW' := hW
  obtain ⟨p, q, hA0, hV, rfl, hfz, hnd⟩ := hW
  have hA : DataW.TrodAll enc Try.prog W 0 (fun _ => true) true Try.f4.params.toList args.toList ds p := hA0
  rw [Try.params4] at hA hval
  obtain ⟨u0, us0, d0, ds0, p0, q0, hargs, rfl, rfl, g0, k0⟩ := trodAll_cons hA
  obtain ⟨rfl, rfl, rfl⟩ := trodAll_nil k0
  obtain rfl : args = #[u0] := by cases args; simp_all
  obtain ⟨rfl, rfl⟩ := trodVars_none hV
  obtain ⟨m0, e0⟩ := g0
  obtain ⟨s0, l0, f0, hh0⟩ := open_arg_bytes e0
  have f0' := one_of_cells Try.underlying22 (hval 0 _ _ rfl rfl) f0
  subst f0'
  refine (walk _ l0 W hh0).mono fun e W' ⟨he, hb⟩ => ?_
  subst he
  exact ⟨_, rfl, law_post Try.kids Try.full (by rw [Try.params4]; decide) rfl rfl Try.underlying4 hW' rfl rfl rfl hb⟩

set_option maxRecDepth 100000 in
theorem lifted (os : Os) (started : os.Started) (H : Type) (enc : TypeId × Value → H) :
    ReturnsInHanded {} Try.checked os 4 .any (Rows.fnBlockingSideSpec.pre6 enc Try.prog Try.f4 Rows.fnBlockingSideRow.domain false) (Rows.fnBlockingSideSpec.post enc Try.prog Try.f4 false true false false) := by
  refine returnsInHanded_of_change (C := Try.checked) Try.own started (by kernel_rfl) Try.func4
    (ChangeSpec.witness6 (enc := enc) (C := Try.checked) false ⟨#[], #[.slice none 0 0], []⟩ 8 (by kernel_rfl) (by kernel_rfl) (by kernel_rfl) (by kernel_rfl)) ?_
  intro W base args ds gs before hval0 hW _ _
  exact contract H enc W base args ds gs before hval0 hW

theorem proved : Rows.FnBlockingSideSaid :=
  OpenClaim.holds_of_wide 4 Try.f4 rfl rfl rfl rfl rfl rfl rfl ⟨rfl, rfl, rfl, rfl, rfl⟩ rfl rfl rfl rfl rfl (by kernel_rfl) Try.func4 (by kernel_rfl)
    (of_decide_eq_true (by kernel_rfl)) (by unfold Func.isWrapper; first | (rw [if_pos (by decide +kernel)]; kernel_rfl) | (rw [if_neg (by decide +kernel)]; exact ⟨rfl, rfl⟩))
    (fun os started H enc _ => lifted os started H enc)

end Go.Proofs.Ytphbmlephldaaaa.lawBlockingSide
