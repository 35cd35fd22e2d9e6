/- FnReachedFrom: for every code the law holds: the reached side is the model's; the node itself is reached, from each reached node no more is reached, and a greatest flow is not reached to its end. No condition. -/
import Derived.Test.YtobbeofibkpbaaaGZ56
import Derived.Test.YtobbeofibkpbaaaGZ12
import Derived.Test.YtobbeofibkpbaaaGZ26
import Derived.Test.YtobbeofibkpbaaaGZ57
import Derived.Test.YtobbeofibkpbaaaGZ4
import Derived.Test.YtobbeofibkpbaaaMG
namespace Go.Proofs.Ytobbeofibkpbaaa.lawReachedFrom
open Go.ChangeShapes Go.WideShapes Go.ChangeAt Go.RowKit Go.Deep Go.Joins

theorem shr_ne {i : Int} (h : 0 ≤ i) (k : Nat) : ((i / 2 ^ k).tmod 2 != 0) = bitB i (k : Int) := by
  rw [← shr_bitB h k]
  have h2 : 0 ≤ i / 2 ^ k := Int.ediv_nonneg h (by exact_mod_cast Nat.zero_le _)
  rw [Int.tmod_eq_emod_of_nonneg h2]
  generalize i / 2 ^ k = x
  rcases (show x % 2 = 0 ∨ x % 2 = 1 by omega) with h3 | h3 <;> simp [h3]

theorem less_none : ∀ (s t : Fin 32), (∀ v : Fin 5, bitB (s.val : Int) (v.val : Int) = true → bitB (t.val : Int) (v.val : Int) = true) → bits .andNot .i64 (s.val : Int) (t.val : Int) = 0 := by decide +kernel

theorem inner {n : Int} {ps : List Pp} {xs : List Int} {a k : Int} (h : reachB n ps xs a = true) (k0 : 0 ≤ k) (k1 : k < n) (hk : bitB (reachI n ps xs a) k = true) :
    ∃ o, reachS n ps xs k = o ∧ decide (o < 0) = false ∧ bits .andNot .i64 o (reachI n ps xs a) = 0 := by
  obtain ⟨hh, hn, n2, n5, a0, a1⟩ := reach_parts h
  have h' : reachB n ps xs k = true := by simp [reachB, hh, withinB]; omega
  obtain ⟨r0, r1⟩ := reach_in n ps xs a
  obtain ⟨o0, o1⟩ := reach_in n ps xs k
  have h5 := pow_le5 (n := n) (by omega)
  refine ⟨_, reach_yes h', decide_eq_false (by omega), ?_⟩
  have hv : ∀ v : Nat, v < 5 → bitB (reachI n ps xs k) (v : Int) = true → bitB (reachI n ps xs a) (v : Int) = true := by
    intro v hv hb
    by_cases hvn : (v : Int) < n
    · exact reach_trans h hk k0 k1 (by omega) hvn hb
    · rw [reachI, sideOf_bit _ (by omega) (by omega)] at hb
      have : decide (v < n.toNat) = false := decide_eq_false (by omega)
      rw [this] at hb
      exact absurd hb (by simp)
  have := less_none ⟨(reachI n ps xs k).toNat, by omega⟩ ⟨(reachI n ps xs a).toNat, by omega⟩ (fun v hb => by
    have e1 : (((reachI n ps xs k).toNat : Nat) : Int) = reachI n ps xs k := Int.toNat_of_nonneg o0
    have e2 : (((reachI n ps xs a).toNat : Nat) : Int) = reachI n ps xs a := Int.toNat_of_nonneg r0
    dsimp only at hb ⊢
    rw [e1] at hb
    rw [e2]
    exact hv v.val v.isLt hb)
  have e1 : (((reachI n ps xs k).toNat : Nat) : Int) = reachI n ps xs k := Int.toNat_of_nonneg o0
  have e2 : (((reachI n ps xs a).toNat : Nat) : Int) = reachI n ps xs a := Int.toNat_of_nonneg r0
  dsimp only at this
  rw [e1, e2] at this
  exact this

theorem full_no {n : Int} {ps : List Pp} {a : Int} {k : Nat} (h : greatB n ps a k = true) : ∃ r, reachS n ps (greatF n ps a k) a = r ∧ ((r / 2 ^ k).tmod 2 != 0) = false := by
  obtain ⟨c1, c2, -⟩ := end_cut (great_parts h).2 (great_holds h) (great_only h) (great_end h)
  refine ⟨_, reach_yes c1, ?_⟩
  rw [shr_ne (reach_in _ _ _ _).1]
  simp only [partsB, Bool.and_eq_true, Bool.not_eq_true'] at c2
  exact c2.2

set_option maxHeartbeats 4000000 in
set_option maxRecDepth 20000 in
theorem walk (v : Value) (n : Nat) (w : World) (h : ArgBytes w v n) :
    Calls Try.prog 5 #[v] w fun e w' => e = .returned (.bool true) ∧ Below w.heap.size w w' := by
  obtain ⟨A, c, rfl, hc1, hc2, -⟩ := id h
  unfold maxLen at hc2
  by_cases hbig : 1048576 < n
  · go_enter Try.func5, Try.ntmps5
    go_wp2
    go_ret
    exact ⟨rfl, by (repeat (first | (with_reducible assumption) | (with_reducible exact Below.refl _ _) | ((with_reducible refine Below.alloc ?_ ?hsz _); (case hsz => (first | omega | (simp; done) | (simp; omega) | (simp at *; omega)))) | ((with_reducible refine Below.setCell ?_ ?hsz _); (case hsz => (first | omega | (simp; done) | (simp; omega) | (simp at *; omega)))) | (with_reducible refine Below.drew ?_) | (with_reducible refine below_drewN ?_ _) | ((with_reducible refine Below.trans ?_ (Below.mono (by with_reducible assumption) ?hsz)); (case hsz => (first | omega | (simp; done) | (simp; omega) | (simp at *; omega))))))⟩
  go_enter Try.func5, Try.ntmps5
  go_wp2_with fail
  with_reducible refine (drawReachedFrom_any _ n _ (h.keep (by (repeat (first | (with_reducible assumption) | (with_reducible exact Below.refl _ _) | ((with_reducible refine Below.alloc ?_ ?hsz _); (case hsz => (first | omega | (simp; done) | (simp; omega) | (simp at *; omega)))) | ((with_reducible refine Below.setCell ?_ ?hsz _); (case hsz => (first | omega | (simp; done) | (simp; omega) | (simp at *; omega)))) | (with_reducible refine Below.drew ?_) | (with_reducible refine below_drewN ?_ _) | ((with_reducible refine Below.trans ?_ (Below.mono (by with_reducible assumption) ?hsz)); (case hsz => (first | omega | (simp; done) | (simp; omega) | (simp at *; omega))))))))).mono ?_
  rintro e w1 ⟨z, ps, u, xs, t, i, rfl, hp, hx, hlen, hb1, hl8, hz1, hz6, hi0, hiz⟩
  have hBw1 : Below w.heap.size w w1 := by (repeat (first | (with_reducible assumption) | (with_reducible exact Below.refl _ _) | ((with_reducible refine Below.alloc ?_ ?hsz _); (case hsz => (first | omega | (simp; done) | (simp; omega) | (simp at *; omega)))) | ((with_reducible refine Below.setCell ?_ ?hsz _); (case hsz => (first | omega | (simp; done) | (simp; omega) | (simp at *; omega)))) | (with_reducible refine Below.drew ?_) | (with_reducible refine below_drewN ?_ _) | ((with_reducible refine Below.trans ?_ (Below.mono (by with_reducible assumption) ?hsz)); (case hsz => (first | omega | (simp; done) | (simp; omega) | (simp at *; omega))))))
  clear h hc1 hc2 hbig
  obtain ⟨A1, c1, rfl, hk1, hk2, hsm, -⟩ := hp.form
  unfold maxLen at hk2
  have bx1 : Box2 (w1.alloc (.cells #[.int .i64 z, .slice A1 ps.length c1] 25)) w1.heap.size (.int .i64 z) (.slice A1 ps.length c1) := Box2.new _ _ _ _
  have hB1 : Below w1.heap.size w1 (w1.alloc (.cells #[.int .i64 z, .slice A1 ps.length c1] 25)) := by (repeat (first | (with_reducible assumption) | (with_reducible exact Below.refl _ _) | ((with_reducible refine Below.alloc ?_ ?hsz _); (case hsz => (first | omega | (simp; done) | (simp; omega) | (simp at *; omega)))) | ((with_reducible refine Below.setCell ?_ ?hsz _); (case hsz => (first | omega | (simp; done) | (simp; omega) | (simp at *; omega)))) | (with_reducible refine Below.drew ?_) | (with_reducible refine below_drewN ?_ _) | ((with_reducible refine Below.trans ?_ (Below.mono (by with_reducible assumption) ?hsz)); (case hsz => (first | omega | (simp; done) | (simp; omega) | (simp at *; omega))))))
  go_wp2_with fail
  with_reducible refine (reachedFrom_any z i _ _ ps xs _ _ _ (hp.keep hB1) (hx.keep hB1)).mono ?_
  rintro e w2 ⟨rfl, hnn⟩
  have bx2 := (bx1).keep hnn
  have hB2 : Below w1.heap.size w1 w2 := by (repeat (first | (with_reducible assumption) | (with_reducible exact Below.refl _ _) | ((with_reducible refine Below.alloc ?_ ?hsz _); (case hsz => (first | omega | (simp; done) | (simp; omega) | (simp at *; omega)))) | ((with_reducible refine Below.setCell ?_ ?hsz _); (case hsz => (first | omega | (simp; done) | (simp; omega) | (simp at *; omega)))) | (with_reducible refine Below.drew ?_) | (with_reducible refine below_drewN ?_ _) | ((with_reducible refine Below.trans ?_ (Below.mono (by with_reducible assumption) ?hsz)); (case hsz => (first | omega | (simp; done) | (simp; omega) | (simp at *; omega))))))
  clear hnn
  (try clear d0 d1 g0 g1)
  obtain ⟨bs, d0, d1, g0, g1⟩ := id bx2
  go_wp2_with fail
  with_reducible refine (specReached_any z i _ _ ps xs _ _ _ (hp.keep hB2) (hx.keep hB2)).mono ?_
  rintro e w3 ⟨rfl, hnn⟩
  have bx3 := (bx2).keep hnn
  have hB3 : Below w1.heap.size w1 w3 := by (repeat (first | (with_reducible assumption) | (with_reducible exact Below.refl _ _) | ((with_reducible refine Below.alloc ?_ ?hsz _); (case hsz => (first | omega | (simp; done) | (simp; omega) | (simp at *; omega)))) | ((with_reducible refine Below.setCell ?_ ?hsz _); (case hsz => (first | omega | (simp; done) | (simp; omega) | (simp at *; omega)))) | (with_reducible refine Below.drew ?_) | (with_reducible refine below_drewN ?_ _) | ((with_reducible refine Below.trans ?_ (Below.mono (by with_reducible assumption) ?hsz)); (case hsz => (first | omega | (simp; done) | (simp; omega) | (simp at *; omega))))))
  clear hnn
  (try clear d0 d1 g0 g1)
  obtain ⟨bs, d0, d1, g0, g1⟩ := id bx3
  by_cases hrb : reachB z ps xs i = true
  · obtain ⟨hh, hok, n2, n5, i0, i1⟩ := reach_parts hrb
    obtain ⟨r0, r1⟩ := reach_in z ps xs i
    have hr5 := pow_le5 n5
    have hself := reach_self hrb
    have hside : sideB z ps (reachI z ps xs i) = true := by simp [sideB, hok, withinB, r0, r1]
    obtain ⟨I, rfl⟩ : ∃ I : Nat, i = (I : Int) := ⟨i.toNat, by omega⟩
    obtain ⟨N, rfl⟩ : ∃ N : Nat, z = (N : Int) := ⟨z.toNat, by omega⟩
    have hin := Lib.hid (fun (k : Nat) (hk : k < N) (hb : bitB (reachI N ps xs I) (k : Int) = true) => inner hrb (Int.natCast_nonneg k) (by omega) hb)
    have hg31 : reachI N ps xs I ≤ 31 := by omega
    have hsh0 := shr_bitB r0 I
    rw [hself] at hsh0
    have HS := Lib.hid (And.intro hside hsh0)
    rw [reach_yes hrb]
    clear hside hsh0 hself hrb r1 hr5 hh hok
    generalize reachI N ps xs I = g at *
    go_wp2_with fail
    go_loopw [7] (fun t wr => ∃ k : Nat, k ≤ N ∧ t = .int .i64 k ∧ Box2 wr w1.heap.size (.int .i64 (N : Int)) (.slice A1 ps.length c1) ∧ Below w1.heap.size w1 wr) (fun t _ => N - (intOf t).toNat)
    case atStart => exact ⟨0, by omega, rfl, bx3, hB3⟩
    case round =>
      clear bs d0 d1 g0 g1 bx3 hB3
      obtain ⟨k, hk, rfl, bx, hB⟩ := hrel
      obtain ⟨bs, d0, d1, g0, g1⟩ := id bx
      by_cases hlt : k < N
      · have hsh := shr_bitB r0 k
        by_cases hbk : bitB g (k : Int) = true
        · obtain ⟨o, ho, ho0, hog⟩ := hin.out k hlt hbk
          rw [hbk] at hsh
          clear hbk
          go_wp2_with fail
          with_reducible refine (reachedFrom_any (N : Int) (k : Int) _ _ ps xs _ _ _ (hp.keep hB) (hx.keep hB)).mono ?_
          rintro e w5 ⟨rfl, hnn⟩
          have bx5 := (bx).keep hnn
          have hB5 : Below w1.heap.size w1 w5 := by (repeat (first | (with_reducible assumption) | (with_reducible exact Below.refl _ _) | ((with_reducible refine Below.alloc ?_ ?hsz _); (case hsz => (first | omega | (simp; done) | (simp; omega) | (simp at *; omega)))) | ((with_reducible refine Below.setCell ?_ ?hsz _); (case hsz => (first | omega | (simp; done) | (simp; omega) | (simp at *; omega)))) | (with_reducible refine Below.drew ?_) | (with_reducible refine below_drewN ?_ _) | ((with_reducible refine Below.trans ?_ (Below.mono (by with_reducible assumption) ?hsz)); (case hsz => (first | omega | (simp; done) | (simp; omega) | (simp at *; omega))))))
          clear hnn
          (try clear d0 d1 g0 g1)
          obtain ⟨bs, d0, d1, g0, g1⟩ := id bx5
          rw [ho]
          clear ho
          go_wp2_with fail
          with_reducible refine (greatestFlow_any (N : Int) (I : Int) (k : Int) _ ps _ _ (hp.keep hB5)).mono ?_
          rintro e w6 ⟨r6, rfl, hr6, hnn⟩
          have bx6 := (bx5).keep hnn
          have hB6 : Below w1.heap.size w1 w6 := by (repeat (first | (with_reducible assumption) | (with_reducible exact Below.refl _ _) | ((with_reducible refine Below.alloc ?_ ?hsz _); (case hsz => (first | omega | (simp; done) | (simp; omega) | (simp at *; omega)))) | ((with_reducible refine Below.setCell ?_ ?hsz _); (case hsz => (first | omega | (simp; done) | (simp; omega) | (simp at *; omega)))) | (with_reducible refine Below.drew ?_) | (with_reducible refine below_drewN ?_ _) | ((with_reducible refine Below.trans ?_ (Below.mono (by with_reducible assumption) ?hsz)); (case hsz => (first | omega | (simp; done) | (simp; omega) | (simp at *; omega))))))
          clear hnn d0 d1 g0 g1
          obtain ⟨bs, d0, d1, g0, g1⟩ := id bx6
          by_cases hgk : greatB (N : Int) ps (I : Int) (k : Int) = true
          · rw [hgk]
            obtain ⟨r, hr, hrz⟩ := full_no hgk
            clear hgk
            go_wp2_with fail
            with_reducible refine (reachedFrom_any (N : Int) (I : Int) _ _ ps _ _ _ _ (hp.keep hB6) hr6).mono ?_
            rintro e w7 ⟨rfl, hnn⟩
            have bx7 := bx6.keep hnn
            have hB7 : Below w1.heap.size w1 w7 := by (repeat (first | (with_reducible assumption) | (with_reducible exact Below.refl _ _) | ((with_reducible refine Below.alloc ?_ ?hsz _); (case hsz => (first | omega | (simp; done) | (simp; omega) | (simp at *; omega)))) | ((with_reducible refine Below.setCell ?_ ?hsz _); (case hsz => (first | omega | (simp; done) | (simp; omega) | (simp at *; omega)))) | (with_reducible refine Below.drew ?_) | (with_reducible refine below_drewN ?_ _) | ((with_reducible refine Below.trans ?_ (Below.mono (by with_reducible assumption) ?hsz)); (case hsz => (first | omega | (simp; done) | (simp; omega) | (simp at *; omega))))))
            clear hnn d0 d1 g0 g1 hr6
            obtain ⟨bs, d0, d1, g0, g1⟩ := id bx7
            rw [hr]
            clear hr
            go_wp2
            go_roundw
            case rel => exact ⟨k + 1, by omega, by go_num, bx7, hB7⟩
            case measure => simp [intOf]; omega
          · have hgk' : greatB (N : Int) ps (I : Int) (k : Int) = false := by simpa using hgk
            rw [hgk']
            clear hgk hgk'
            go_wp2
            go_roundw
            case rel => exact ⟨k + 1, by omega, by go_num, bx6, hB6⟩
            case measure => simp [intOf]; omega
        · have hbk' : bitB g (k : Int) = false := by simpa using hbk
          rw [hbk'] at hsh
          clear hbk hbk'
          go_wp2_with fail
          with_reducible refine (greatestFlow_any (N : Int) (I : Int) (k : Int) _ ps _ _ (hp.keep hB)).mono ?_
          rintro e w6 ⟨r6, rfl, hr6, hnn⟩
          have bx6 := (bx).keep hnn
          have hB6 : Below w1.heap.size w1 w6 := by (repeat (first | (with_reducible assumption) | (with_reducible exact Below.refl _ _) | ((with_reducible refine Below.alloc ?_ ?hsz _); (case hsz => (first | omega | (simp; done) | (simp; omega) | (simp at *; omega)))) | ((with_reducible refine Below.setCell ?_ ?hsz _); (case hsz => (first | omega | (simp; done) | (simp; omega) | (simp at *; omega)))) | (with_reducible refine Below.drew ?_) | (with_reducible refine below_drewN ?_ _) | ((with_reducible refine Below.trans ?_ (Below.mono (by with_reducible assumption) ?hsz)); (case hsz => (first | omega | (simp; done) | (simp; omega) | (simp at *; omega))))))
          clear hnn d0 d1 g0 g1
          obtain ⟨bs, d0, d1, g0, g1⟩ := id bx6
          by_cases hgk : greatB (N : Int) ps (I : Int) (k : Int) = true
          · rw [hgk]
            obtain ⟨r, hr, hrz⟩ := full_no hgk
            clear hgk
            go_wp2_with fail
            with_reducible refine (reachedFrom_any (N : Int) (I : Int) _ _ ps _ _ _ _ (hp.keep hB6) hr6).mono ?_
            rintro e w7 ⟨rfl, hnn⟩
            have bx7 := bx6.keep hnn
            have hB7 : Below w1.heap.size w1 w7 := by (repeat (first | (with_reducible assumption) | (with_reducible exact Below.refl _ _) | ((with_reducible refine Below.alloc ?_ ?hsz _); (case hsz => (first | omega | (simp; done) | (simp; omega) | (simp at *; omega)))) | ((with_reducible refine Below.setCell ?_ ?hsz _); (case hsz => (first | omega | (simp; done) | (simp; omega) | (simp at *; omega)))) | (with_reducible refine Below.drew ?_) | (with_reducible refine below_drewN ?_ _) | ((with_reducible refine Below.trans ?_ (Below.mono (by with_reducible assumption) ?hsz)); (case hsz => (first | omega | (simp; done) | (simp; omega) | (simp at *; omega))))))
            clear hnn d0 d1 g0 g1 hr6
            obtain ⟨bs, d0, d1, g0, g1⟩ := id bx7
            rw [hr]
            clear hr
            go_wp2
            go_roundw
            case rel => exact ⟨k + 1, by omega, by go_num, bx7, hB7⟩
            case measure => simp [intOf]; omega
          · have hgk' : greatB (N : Int) ps (I : Int) (k : Int) = false := by simpa using hgk
            rw [hgk']
            clear hgk hgk'
            go_wp2
            go_roundw
            case rel => exact ⟨k + 1, by omega, by go_num, bx6, hB6⟩
            case measure => simp [intOf]; omega
      · have hside := HS.out.1
        have hsh0 := HS.out.2
        go_wp2_with fail
        with_reducible refine (sideOk_any (N : Int) g _ ps _ _ (hp.keep hB)).mono ?_
        rintro e w5 ⟨rfl, hnn⟩
        have bx5 := bx.keep hnn
        have hB5 : Below w1.heap.size w1 w5 := by (repeat (first | (with_reducible assumption) | (with_reducible exact Below.refl _ _) | ((with_reducible refine Below.alloc ?_ ?hsz _); (case hsz => (first | omega | (simp; done) | (simp; omega) | (simp at *; omega)))) | ((with_reducible refine Below.setCell ?_ ?hsz _); (case hsz => (first | omega | (simp; done) | (simp; omega) | (simp at *; omega)))) | (with_reducible refine Below.drew ?_) | (with_reducible refine below_drewN ?_ _) | ((with_reducible refine Below.trans ?_ (Below.mono (by with_reducible assumption) ?hsz)); (case hsz => (first | omega | (simp; done) | (simp; omega) | (simp at *; omega))))))
        clear hnn d0 d1 g0 g1
        obtain ⟨bs, d0, d1, g0, g1⟩ := id bx5
        rw [hside]
        go_wp2
        (go_ret; exact ⟨rfl, hBw1.trans (Below.mono (by with_reducible assumption) hBw1.size)⟩)
  · rw [reach_no (by simpa using hrb)]
    go_wp2_with fail
    with_reducible refine (alive_any _).mono ?_
    rintro e w4 ⟨rfl, hnn⟩
    have bx4 := (bx3).keep hnn
    have hB4 : Below w1.heap.size w1 w4 := by (repeat (first | (with_reducible assumption) | (with_reducible exact Below.refl _ _) | ((with_reducible refine Below.alloc ?_ ?hsz _); (case hsz => (first | omega | (simp; done) | (simp; omega) | (simp at *; omega)))) | ((with_reducible refine Below.setCell ?_ ?hsz _); (case hsz => (first | omega | (simp; done) | (simp; omega) | (simp at *; omega)))) | (with_reducible refine Below.drew ?_) | (with_reducible refine below_drewN ?_ _) | ((with_reducible refine Below.trans ?_ (Below.mono (by with_reducible assumption) ?hsz)); (case hsz => (first | omega | (simp; done) | (simp; omega) | (simp at *; omega))))))
    clear hnn
    (try clear d0 d1 g0 g1)
    obtain ⟨bs, d0, d1, g0, g1⟩ := id bx4
    go_wp2
    (go_ret; exact ⟨rfl, hBw1.trans (Below.mono (by with_reducible assumption) hBw1.size)⟩)

set_option maxRecDepth 100000 in
theorem contract (H : Type) (enc : TypeId × Value → H) (W : World) (base : Nat) (args : Array Value) (ds gs : List (DataW H)) (before : List MemPlace)
    (hval : ∀ (j : Nat) t v, Try.f5.params[j]? = some t → args[j]? = some v → Value.okWide Try.prog W .any base t v)
    (hW : DataW.Whole enc Try.prog Try.f5.params.toList Rows.fnReachedFromSpec.vars false W args.toList ds gs before) :
    Calls Try.prog 5 args W fun e W' => ∃ v, e = .returned v ∧ Rows.fnReachedFromSpec.post enc Try.prog Try.f5 false true false false W args v W' := by
  have hW' := hW
  obtain ⟨p, q, hA0, hV, rfl, hfz, hnd⟩ := hW
  have hA : DataW.TrodAll enc Try.prog W 0 (fun _ => true) true Try.f5.params.toList args.toList ds p := hA0
  rw [Try.params5] at hA hval
  obtain ⟨u0, us0, d0, ds0, p0, q0, hargs, rfl, rfl, g0, k0⟩ := trodAll_cons hA
  obtain ⟨rfl, rfl, rfl⟩ := trodAll_nil k0
  obtain rfl : args = #[u0] := by cases args; simp_all
  obtain ⟨rfl, rfl⟩ := trodVars_none hV
  obtain ⟨m0, e0⟩ := g0
  obtain ⟨s0, l0, f0, hh0⟩ := open_arg_bytes e0
  have f0' := one_of_cells Try.underlying22 (hval 0 _ _ rfl rfl) f0
  subst f0'
  refine (walk _ l0 W hh0).mono fun e W' ⟨he, hb⟩ => ?_
  subst he
  exact ⟨_, rfl, law_post Try.kids Try.full (by rw [Try.params5]; decide) rfl rfl Try.underlying4 hW' rfl rfl rfl hb⟩

set_option maxRecDepth 100000 in
theorem lifted (os : Os) (started : os.Started) (H : Type) (enc : TypeId × Value → H) :
    ReturnsInHanded {} Try.checked os 5 .any (Rows.fnReachedFromSpec.pre6 enc Try.prog Try.f5 Rows.fnReachedFromRow.domain false) (Rows.fnReachedFromSpec.post enc Try.prog Try.f5 false true false false) := by
  refine returnsInHanded_of_change (C := Try.checked) Try.own started (by kernel_rfl) Try.func5
    (ChangeSpec.witness6 (enc := enc) (C := Try.checked) false ⟨#[], #[.slice none 0 0], []⟩ 8 (by kernel_rfl) (by kernel_rfl) (by kernel_rfl) (by kernel_rfl)) ?_
  intro W base args ds gs before hval0 hW _ _
  exact contract H enc W base args ds gs before hval0 hW

theorem proved : Rows.FnReachedFromSaid :=
  OpenClaim.holds_of_wide 5 Try.f5 rfl rfl rfl rfl rfl rfl rfl ⟨rfl, rfl, rfl, rfl, rfl⟩ rfl rfl rfl rfl rfl (by kernel_rfl) Try.func5 (by kernel_rfl)
    (of_decide_eq_true (by kernel_rfl)) (by unfold Func.isWrapper; first | (rw [if_pos (by decide +kernel)]; kernel_rfl) | (rw [if_neg (by decide +kernel)]; exact ⟨rfl, rfl⟩))
    (fun os started H enc _ => lifted os started H enc)

end Go.Proofs.Ytobbeofibkpbaaa.lawReachedFrom
