/- Contracts of the functions of chapter 7 in the model: labels, trees, pieces. -/
import Derived.Test.YtphbmlephldaaaaJ5
import Derived.Test.YtphbmlephldaaaaJ4
import Derived.Test.YtphbmlephldaaaaS1
import Derived.Test.YtphbmlephldaaaaRW
import Derived.Test.YtphbmlephldaaaaRD
import Derived.Deep.QuietTactic
import Derived.Deep.AppendLies
namespace Go.Proofs.Ytphbmlephldaaaa
open Go.RowKit

theorem row_empty7 (w : World) {b : Nat} (hb : b ≤ w.heap.size) : Row (w.alloc (.cells #[] 3)) b w.heap.size 0 0 [] :=
  ⟨World.ownsRow_lit (e := 3) (base := b) (size := 1) w #[] 0 hb (by simp [maxLen]) rfl, by simp [small]⟩

set_option maxHeartbeats 4000000 in
set_option maxRecDepth 20000 in
theorem specLabels_any (N : Nat) (v u : Value) (ps : List Pp) (T : List Int) (b b' : Nat) (w : World) (hp : Pipes w b v ps) (hx : Ints w b' u T) (hok : netOkB (N : Int) ps = true) (hT : ∀ t ∈ T, 0 ≤ t ∧ t < (ps.length : Int)) :
    Calls Try.prog 110 #[.agg #[.int .i64 (N : Int), v], u] w fun e w' => ∃ r, e = .returned r ∧ Ints w' w.heap.size r (sLabs N ps T) ∧ Below w.heap.size w w' := by
  have hp0 := hp
  have hx0 := hx
  obtain ⟨A, c, rfl, hc1, hc2, hs, hcell⟩ := hp.form
  obtain ⟨A', c', rfl, hc1', hc2', hs', hcell'⟩ := hx.form
  unfold maxLen at hc2 hc2'
  obtain ⟨n2, n5, hl7, -⟩ := netOk_parts hok
  have hN2 : 2 ≤ N := by omega
  have hN5 : N ≤ 5 := by omega
  have HE := Lib.hid (And.intro (show ∀ p ∈ ps, endsIn (N : Int) p from net_endsIn hok) hT)
  clear hok n2 n5 hT
  obtain ⟨i0, hi0, hz0, hz1, hz2⟩ := info_parts int_info
  have bx0 := (Box2.new w (.int .i64 (N : Int)) (.slice A ps.length c) 25).keep ((Below.refl _ _).alloc (Nat.le_refl _) (.cells #[] 3))
  have hR0 := row_empty7 (w.alloc (.cells #[.int .i64 (N : Int), .slice A ps.length c] 25)) (b := w.heap.size + 1) (by simp)
  rw [World.size_alloc] at hR0
  go_enter Try.func110, Try.ntmps110
  go_wp2
  go_loopw [6, 5] (fun i t wr => ∃ (k g c1 : Nat), k ≤ N ∧ i = .int .i64 (k : Int) ∧ t = .slice (some ⟨g, 0, none⟩) k c1 ∧ Row wr (w.heap.size + 1) g k c1 (ident k) ∧
      Box2 wr w.heap.size (.int .i64 (N : Int)) (.slice A ps.length c) ∧ Below w.heap.size w wr) (fun i _ _ => N - (intOf i).toNat)
  case atStart => exact ⟨0, w.heap.size + 1, 0, by omega, rfl, rfl, hR0, bx0, by (repeat (first | (with_reducible assumption) | (with_reducible exact Below.refl _ _) | ((with_reducible refine Below.alloc ?_ ?hsz _); (case hsz => (first | omega | (simp; done) | (simp; omega) | (simp at *; omega)))) | ((with_reducible refine Below.setCell ?_ ?hsz _); (case hsz => (first | omega | (simp; done) | (simp; omega) | (simp at *; omega)))) | (with_reducible refine Below.drew ?_) | (with_reducible refine below_drewN ?_ _) | ((with_reducible refine Below.trans ?_ (Below.mono (by with_reducible assumption) ?hsz)); (case hsz => (first | omega | (simp; done) | (simp; omega) | (simp at *; omega))))))⟩
  case round =>
    obtain ⟨k, g1, c1, hk, rfl, rfl, hR, bx, hb⟩ := hrel
    clear bx0 hR0
    have hzb := hb.size
    obtain ⟨bs, d0, d1, -, -⟩ := id bx
    have hown := hR.1
    have hcap := hR.capd
    unfold maxLen at hcap
    have hrow : ∀ q, (Value.slice (some ⟨g1, 0, none⟩) k c1).ownBlock = some q → w.heap.size + 1 ≤ q := fun q hq => (hown.lt q hq).1
    by_cases hlt : k < N
    · go_wp2_with (first
        | (at_builtin
           go_must (refine wpList_append_lies _ rfl _ _ 40 rfl (w.heap.size + 1) 3 i0 _ 1 8 Try.underlying40 hi0 hz0 hz1 hz2 rfl (by omega) _ k _ rfl (hown.alloc _) ⟨wr.heap.size, 0, none⟩ 1 1 [.int .i64 (k : Int)] rfl rfl (World.news_of_block (cs := #[.int .i64 (k : Int)]) (t := 3) (fr := (0, 0)) (heap_alloc_new _ _)) (by simp [Value.oneCell']) (by omega) (by unfold maxLen; omega) (by omega) (by simp; omega) _ rfl ?_)
           intro g2 k2 w7 hown7 hgr7 hat7 hlt7))
      have bx7 := (bx.keep ((Below.refl _ _).alloc (Nat.le_refl _) _)).grown hgr7 (by intro h; have := hrow _ h.symm; omega)
      have hb7 : Below w.heap.size w w7 := Below.grown (w := wr.alloc (.cells #[.int .i64 (k : Int)] 3)) (by (repeat (first | (with_reducible assumption) | (with_reducible exact Below.refl _ _) | ((with_reducible refine Below.alloc ?_ ?hsz _); (case hsz => (first | omega | (simp; done) | (simp; omega) | (simp at *; omega)))) | ((with_reducible refine Below.setCell ?_ ?hsz _); (case hsz => (first | omega | (simp; done) | (simp; omega) | (simp at *; omega)))) | (with_reducible refine Below.drew ?_) | (with_reducible refine below_drewN ?_ _) | ((with_reducible refine Below.trans ?_ (Below.mono (by with_reducible assumption) ?hsz)); (case hsz => (first | omega | (simp; done) | (simp; omega) | (simp at *; omega))))))) hgr7 (by (first | omega | (simp; done) | (simp; omega) | (simp at *; omega))) (fun q hq => by have := hrow q hq; omega)
      have hR8 : Row w7 (w.heap.size + 1) g2 (k + 1) k2 (ident (k + 1)) := ⟨by rw [ident_succ, List.map_append]; exact hown7, by unfold small; omega⟩
      clear hown7 hgr7 hat7 hlt7 bx hown hrow hR
      go_wp2
      go_roundw
      case rel => exact ⟨k + 1, g2, k2, by omega, by go_num, rfl, hR8, bx7, hb7⟩
      case measure => simp [intOf]; omega
    · have hkN : N = k := by omega
      subst hkN
      have HR0 := Lib.hid (show Row wr (w.heap.size + 1) g1 N c1 (sLabs N ps (T.take 0)) from hR)
      have hgl : w.heap.size + 1 ≤ g1 := hR.lt.1
      clear hown hrow hR
      go_wp2
      go_loopw [7] (fun i wr => ∃ k : Nat, k ≤ T.length ∧ i = .int .i64 (k : Int) ∧ Row wr (w.heap.size + 1) g1 N c1 (sLabs N ps (T.take k)) ∧ Box2 wr w.heap.size (.int .i64 (N : Int)) (.slice A ps.length c) ∧ Below w.heap.size w wr) (fun i _ => T.length - (intOf i).toNat)
      case atStart => exact ⟨0, by omega, rfl, HR0.out, bx, hb⟩
      case round =>
        clear bx hb hzb bs d0 d1 HR0 hlt
        obtain ⟨k, hk, rfl, hR, bx, hb⟩ := hrel
        have hzb := hb.size
        obtain ⟨bs, d0, d1, -, -⟩ := id bx
        by_cases hlt : k < T.length
        · obtain ⟨gt, rfl, hgt1, hgt2, ct, -⟩ := hcell' wr hb k hlt
          obtain ⟨t0, t1⟩ := HE.out.2 T[k] (List.getElem_mem hlt)
          have Hs := Lib.hid (sLabs_take N ps T k hlt)
          generalize T[k] = tk at *
          obtain ⟨q, rfl⟩ := Int.eq_ofNat_of_zero_le t0
          have hq : q < ps.length := by omega
          obtain ⟨g, rfl, hg1, hg2, q0, q1, q2, q3, q4⟩ := hcell wr hb q hq
          obtain ⟨a0, a1, b0, b1, -⟩ := HE.out.1 ps[q] (List.getElem_mem hq)
          have hgz : ps.getD q zeroPp = ps[q] := by simp [List.getD_eq_getElem?_getD, hq]
          obtain ⟨a, ha⟩ : ∃ a : Nat, ps[q].fr = (a : Int) := ⟨ps[q].fr.toNat, by omega⟩
          obtain ⟨e, he⟩ : ∃ e : Nat, ps[q].to = (e : Int) := ⟨ps[q].to.toNat, by omega⟩
          rw [ha] at a0 a1 q0
          rw [he] at b0 b1 q1
          obtain ⟨y0, -⟩ := hR.at' a (by omega)
          obtain ⟨y1, -⟩ := hR.at' e (by omega)
          have hglr := hR.lt.2
          have hcp := hR.capd
          unfold maxLen at hcp
          have HL := Lib.hid (sLabs_len N ps (T.take k))
          obtain ⟨M, hM⟩ : ∃ M, sLabs N ps (T.take k) = M := ⟨_, rfl⟩
          rw [hM] at hR Hs HL y0 y1
          obtain ⟨la, hla⟩ : ∃ x, M.getD a 0 = x := ⟨_, rfl⟩
          obtain ⟨lb, hlb⟩ : ∃ x, M.getD e 0 = x := ⟨_, rfl⟩
          rw [hla] at y0
          rw [hlb] at y1
          have HS : Hid (sLabs N ps (T.take (k + 1)) = relab M (max la lb) (min la lb)) := Lib.hid (by
            rw [Hs.out, sLab1, Int.toNat_natCast, hgz]
            unfold lab
            rw [ha, he, Int.toNat_natCast, Int.toNat_natCast, hla, hlb])
          have haN : (a : Int) < (N : Int) := a1
          have heN : (e : Int) < (N : Int) := b1
          have hgr : g < wr.heap.size := by omega
          have hgtr : gt < wr.heap.size := by omega
          have hqL : (q : Int) < (ps.length : Int) := t1
          clear hM hla hlb ha he hgz Hs
          by_cases hle : la ≤ lb
          · have HG : Hid (sLabs N ps (T.take (k + 1)) = relabK M lb la N) := Lib.hid (by rw [HS.out, Int.max_eq_right hle, Int.min_eq_left hle, relabK_all _ _ _ HL.out])
            clear HS
            go_wp2
            go_quiet (fail)
            go_wp2
            go_quiet (fail)
            go_wp2
            go_loopw [10] (fun i wr => ∃ j : Nat, j ≤ N ∧ i = .int .i64 (j : Int) ∧ Row wr (w.heap.size + 1) g1 N c1 (relabK M lb la j) ∧ Box2 wr w.heap.size (.int .i64 (N : Int)) (.slice (some ⟨g, 0, none⟩) ps.length c) ∧ Below w.heap.size w wr) (fun i _ => N - (intOf i).toNat)
            case atStart => exact ⟨0, by omega, rfl, hR.keep (by (repeat (first | (with_reducible assumption) | (with_reducible exact Below.refl _ _) | ((with_reducible refine Below.alloc ?_ ?hsz _); (case hsz => (first | omega | (simp; done) | (simp; omega) | (simp at *; omega)))) | ((with_reducible refine Below.setCell ?_ ?hsz _); (case hsz => (first | omega | (simp; done) | (simp; omega) | (simp at *; omega)))) | (with_reducible refine Below.drew ?_) | (with_reducible refine below_drewN ?_ _) | ((with_reducible refine Below.trans ?_ (Below.mono (by with_reducible assumption) ?hsz)); (case hsz => (first | omega | (simp; done) | (simp; omega) | (simp at *; omega))))))), bx.keep (by (repeat (first | (with_reducible assumption) | (with_reducible exact Below.refl _ _) | ((with_reducible refine Below.alloc ?_ ?hsz _); (case hsz => (first | omega | (simp; done) | (simp; omega) | (simp at *; omega)))) | ((with_reducible refine Below.setCell ?_ ?hsz _); (case hsz => (first | omega | (simp; done) | (simp; omega) | (simp at *; omega)))) | (with_reducible refine Below.drew ?_) | (with_reducible refine below_drewN ?_ _) | ((with_reducible refine Below.trans ?_ (Below.mono (by with_reducible assumption) ?hsz)); (case hsz => (first | omega | (simp; done) | (simp; omega) | (simp at *; omega))))))), by (repeat (first | (with_reducible assumption) | (with_reducible exact Below.refl _ _) | ((with_reducible refine Below.alloc ?_ ?hsz _); (case hsz => (first | omega | (simp; done) | (simp; omega) | (simp at *; omega)))) | ((with_reducible refine Below.setCell ?_ ?hsz _); (case hsz => (first | omega | (simp; done) | (simp; omega) | (simp at *; omega)))) | (with_reducible refine Below.drew ?_) | (with_reducible refine below_drewN ?_ _) | ((with_reducible refine Below.trans ?_ (Below.mono (by with_reducible assumption) ?hsz)); (case hsz => (first | omega | (simp; done) | (simp; omega) | (simp at *; omega))))))⟩
            case round =>
              clear hR bx hb hzb bs d0 d1 y0 y1 q0 q1 q2 q3 q4 ct hglr
              obtain ⟨j, hj, rfl, hR, bx, hb⟩ := hrel
              have hzb := hb.size
              obtain ⟨bs, d0, d1, -, -⟩ := id bx
              by_cases hjN : j < N
              · obtain ⟨y0, z0⟩ := hR.at' j hjN
                have hglr := hR.lt.2
                have Hr : Hid (relabK M lb la (j + 1) = if (relabK M lb la j).getD j 0 = lb then (relabK M lb la j).set j la else relabK M lb la j) := Lib.hid rfl
                obtain ⟨M1, hM1⟩ : ∃ M1, relabK M lb la j = M1 := ⟨_, rfl⟩
                rw [hM1] at Hr hR y0
                obtain ⟨x, hx⟩ : ∃ x, M1.getD j 0 = x := ⟨_, rfl⟩
                rw [hx] at Hr y0
                clear hx hM1
                by_cases hxl : x = lb
                · have hx1 : (x == lb) = true := by simp [hxl]
                  have Hr2 : Hid (relabK M lb la (j + 1) = M1.set j la) := Lib.hid (by rw [Hr.out, if_pos hxl])
                  have HR2 := Lib.hid (hR.set j la)
                  have hgb : g1 ≠ w.heap.size := by omega
                  have bx2 := bx.far (p := ⟨g1, j, none⟩) (by simpa using hgb) (.int .i64 la)
                  clear hxl Hr
                  go_wp2
                  go_roundw
                  case rel => exact ⟨j + 1, by omega, by go_num, by rw [Hr2.out]; exact HR2.out, bx2, by (repeat (first | (with_reducible assumption) | (with_reducible exact Below.refl _ _) | ((with_reducible refine Below.alloc ?_ ?hsz _); (case hsz => (first | omega | (simp; done) | (simp; omega) | (simp at *; omega)))) | ((with_reducible refine Below.setCell ?_ ?hsz _); (case hsz => (first | omega | (simp; done) | (simp; omega) | (simp at *; omega)))) | (with_reducible refine Below.drew ?_) | (with_reducible refine below_drewN ?_ _) | ((with_reducible refine Below.trans ?_ (Below.mono (by with_reducible assumption) ?hsz)); (case hsz => (first | omega | (simp; done) | (simp; omega) | (simp at *; omega))))))⟩
                  case measure => simp [intOf]; omega
                · have hx1 : (x == lb) = false := by simp [hxl]
                  have Hr2 : Hid (relabK M lb la (j + 1) = M1) := Lib.hid (by rw [Hr.out, if_neg hxl])
                  clear hxl Hr
                  go_wp2
                  go_roundw
                  case rel => exact ⟨j + 1, by omega, by go_num, by rw [Hr2.out]; exact hR, bx, hb⟩
                  case measure => simp [intOf]; omega
              · have hjN2 : j = N := by omega
                rw [hjN2, ← HG.out] at hR
                go_wp2
                go_roundw
                case rel => exact ⟨k + 1, by omega, by go_num, hR, bx, hb⟩
                case measure => simp [intOf]; omega
          · have HG : Hid (sLabs N ps (T.take (k + 1)) = relabK M la lb N) := Lib.hid (by rw [HS.out, Int.max_eq_left (by omega), Int.min_eq_right (by omega), relabK_all _ _ _ HL.out])
            clear HS
            go_wp2
            go_quiet (fail)
            go_wp2
            go_quiet (fail)
            go_wp2
            go_loopw [10] (fun i wr => ∃ j : Nat, j ≤ N ∧ i = .int .i64 (j : Int) ∧ Row wr (w.heap.size + 1) g1 N c1 (relabK M la lb j) ∧ Box2 wr w.heap.size (.int .i64 (N : Int)) (.slice (some ⟨g, 0, none⟩) ps.length c) ∧ Below w.heap.size w wr) (fun i _ => N - (intOf i).toNat)
            case atStart => exact ⟨0, by omega, rfl, hR.keep (by (repeat (first | (with_reducible assumption) | (with_reducible exact Below.refl _ _) | ((with_reducible refine Below.alloc ?_ ?hsz _); (case hsz => (first | omega | (simp; done) | (simp; omega) | (simp at *; omega)))) | ((with_reducible refine Below.setCell ?_ ?hsz _); (case hsz => (first | omega | (simp; done) | (simp; omega) | (simp at *; omega)))) | (with_reducible refine Below.drew ?_) | (with_reducible refine below_drewN ?_ _) | ((with_reducible refine Below.trans ?_ (Below.mono (by with_reducible assumption) ?hsz)); (case hsz => (first | omega | (simp; done) | (simp; omega) | (simp at *; omega))))))), bx.keep (by (repeat (first | (with_reducible assumption) | (with_reducible exact Below.refl _ _) | ((with_reducible refine Below.alloc ?_ ?hsz _); (case hsz => (first | omega | (simp; done) | (simp; omega) | (simp at *; omega)))) | ((with_reducible refine Below.setCell ?_ ?hsz _); (case hsz => (first | omega | (simp; done) | (simp; omega) | (simp at *; omega)))) | (with_reducible refine Below.drew ?_) | (with_reducible refine below_drewN ?_ _) | ((with_reducible refine Below.trans ?_ (Below.mono (by with_reducible assumption) ?hsz)); (case hsz => (first | omega | (simp; done) | (simp; omega) | (simp at *; omega))))))), by (repeat (first | (with_reducible assumption) | (with_reducible exact Below.refl _ _) | ((with_reducible refine Below.alloc ?_ ?hsz _); (case hsz => (first | omega | (simp; done) | (simp; omega) | (simp at *; omega)))) | ((with_reducible refine Below.setCell ?_ ?hsz _); (case hsz => (first | omega | (simp; done) | (simp; omega) | (simp at *; omega)))) | (with_reducible refine Below.drew ?_) | (with_reducible refine below_drewN ?_ _) | ((with_reducible refine Below.trans ?_ (Below.mono (by with_reducible assumption) ?hsz)); (case hsz => (first | omega | (simp; done) | (simp; omega) | (simp at *; omega))))))⟩
            case round =>
              clear hR bx hb hzb bs d0 d1 y0 y1 q0 q1 q2 q3 q4 ct hglr
              obtain ⟨j, hj, rfl, hR, bx, hb⟩ := hrel
              have hzb := hb.size
              obtain ⟨bs, d0, d1, -, -⟩ := id bx
              by_cases hjN : j < N
              · obtain ⟨y0, z0⟩ := hR.at' j hjN
                have hglr := hR.lt.2
                have Hr : Hid (relabK M la lb (j + 1) = if (relabK M la lb j).getD j 0 = la then (relabK M la lb j).set j lb else relabK M la lb j) := Lib.hid rfl
                obtain ⟨M1, hM1⟩ : ∃ M1, relabK M la lb j = M1 := ⟨_, rfl⟩
                rw [hM1] at Hr hR y0
                obtain ⟨x, hx⟩ : ∃ x, M1.getD j 0 = x := ⟨_, rfl⟩
                rw [hx] at Hr y0
                clear hx hM1
                by_cases hxl : x = la
                · have hx1 : (x == la) = true := by simp [hxl]
                  have Hr2 : Hid (relabK M la lb (j + 1) = M1.set j lb) := Lib.hid (by rw [Hr.out, if_pos hxl])
                  have HR2 := Lib.hid (hR.set j lb)
                  have hgb : g1 ≠ w.heap.size := by omega
                  have bx2 := bx.far (p := ⟨g1, j, none⟩) (by simpa using hgb) (.int .i64 lb)
                  clear hxl Hr
                  go_wp2
                  go_roundw
                  case rel => exact ⟨j + 1, by omega, by go_num, by rw [Hr2.out]; exact HR2.out, bx2, by (repeat (first | (with_reducible assumption) | (with_reducible exact Below.refl _ _) | ((with_reducible refine Below.alloc ?_ ?hsz _); (case hsz => (first | omega | (simp; done) | (simp; omega) | (simp at *; omega)))) | ((with_reducible refine Below.setCell ?_ ?hsz _); (case hsz => (first | omega | (simp; done) | (simp; omega) | (simp at *; omega)))) | (with_reducible refine Below.drew ?_) | (with_reducible refine below_drewN ?_ _) | ((with_reducible refine Below.trans ?_ (Below.mono (by with_reducible assumption) ?hsz)); (case hsz => (first | omega | (simp; done) | (simp; omega) | (simp at *; omega))))))⟩
                  case measure => simp [intOf]; omega
                · have hx1 : (x == la) = false := by simp [hxl]
                  have Hr2 : Hid (relabK M la lb (j + 1) = M1) := Lib.hid (by rw [Hr.out, if_neg hxl])
                  clear hxl Hr
                  go_wp2
                  go_roundw
                  case rel => exact ⟨j + 1, by omega, by go_num, by rw [Hr2.out]; exact hR, bx, hb⟩
                  case measure => simp [intOf]; omega
              · have hjN2 : j = N := by omega
                rw [hjN2, ← HG.out] at hR
                go_wp2
                go_roundw
                case rel => exact ⟨k + 1, by omega, by go_num, hR, bx, hb⟩
                case measure => simp [intOf]; omega
        · have hk2 : k = T.length := by omega
          subst hk2
          rw [List.take_length] at hR
          go_wp2
          go_ret
          exact ⟨_, rfl, hR.ints.mono (by omega), hb⟩

theorem treeN_bd {n : Nat} {ps : List Pp} {k : Nat} (hk : k ≤ ps.length) : ∀ t ∈ numW k (treeF n ps), 0 ≤ t ∧ t < (ps.length : Int) := fun t ht => by
  obtain ⟨i, h1, -, rfl⟩ := numW_mem.1 ht
  omega

set_option maxHeartbeats 4000000 in
set_option maxRecDepth 20000 in
theorem specTree_any (n : Int) (v : Value) (ps : List Pp) (b : Nat) (w : World) (hp : Pipes w b v ps) :
    Calls Try.prog 77 #[.agg #[.int .i64 n, v]] w fun e w' => ∃ r, e = .returned r ∧ Ints w' w.heap.size r (treeR n ps) ∧ Below w.heap.size w w' := by
  have hp0 := hp
  obtain ⟨A, c, rfl, hc1, hc2, hs, hcell⟩ := hp.form
  unfold maxLen at hc2
  have bx0 := (Box2.new w (.int .i64 n) (.slice A ps.length c) 25).keep ((Below.refl _ _).alloc (Nat.le_refl _) (.cells #[] 3))
  have hR0 := row_empty7 (w.alloc (.cells #[.int .i64 n, .slice A ps.length c] 25)) (b := w.heap.size + 1) (by simp)
  rw [World.size_alloc] at hR0
  cases hok : netOkB n ps with
  | false =>
    have Ht : Hid (treeR n ps = []) := Lib.hid (by rw [treeR, if_neg (by simp [hok])])
    have HR0 := Lib.hid hR0
    clear hR0
    have hB0 : Below w.heap.size w ((w.alloc (.cells #[.int .i64 n, .slice A ps.length c] 25)).alloc (.cells #[] 3)) := by (repeat (first | (with_reducible assumption) | (with_reducible exact Below.refl _ _) | ((with_reducible refine Below.alloc ?_ ?hsz _); (case hsz => (first | omega | (simp; done) | (simp; omega) | (simp at *; omega)))) | ((with_reducible refine Below.setCell ?_ ?hsz _); (case hsz => (first | omega | (simp; done) | (simp; omega) | (simp at *; omega)))) | (with_reducible refine Below.drew ?_) | (with_reducible refine below_drewN ?_ _) | ((with_reducible refine Below.trans ?_ (Below.mono (by with_reducible assumption) ?hsz)); (case hsz => (first | omega | (simp; done) | (simp; omega) | (simp at *; omega))))))
    by_cases h0 : 0 < ps.length
    · go_enter Try.func77, Try.ntmps77
      go_wp2
      go_loopw [4, 3] (fun i t wr => i = .int .i64 0 ∧ t = .slice (some ⟨w.heap.size + 1, 0, none⟩) 0 0 ∧ Row wr (w.heap.size + 1) (w.heap.size + 1) 0 0 [] ∧ Box2 wr w.heap.size (.int .i64 n) (.slice A ps.length c) ∧ Below w.heap.size w wr) (fun _ _ _ => 0)
      case atStart => exact ⟨rfl, rfl, HR0.out, bx0, hB0⟩
      case round =>
        obtain ⟨rfl, rfl, hR, bx, hb⟩ := hrel
        clear bx0 hB0
        obtain ⟨bs, d0, d1, -, -⟩ := id bx
        go_wp2_with fail
        refine (specNetOk_any _ _ ps b _ (hp0.keep hb)).mono ?_
        rintro e w1 ⟨rfl, hb1⟩
        rw [hok]
        have hB1 := hb.trans (hb1.mono hb.size)
        have hR1 := hR.keep hb1
        go_wp2
        go_ret
        exact ⟨_, rfl, by rw [Ht.out]; exact hR1.ints.mono (by omega), hB1⟩
    · obtain rfl : ps = [] := List.eq_nil_of_length_eq_zero (by omega)
      clear h0
      rw [List.length_nil] at *
      go_enter Try.func77, Try.ntmps77
      go_wp2
      go_loopw [4, 3] (fun i t wr => i = .int .i64 0 ∧ t = .slice (some ⟨w.heap.size + 1, 0, none⟩) 0 0 ∧ Row wr (w.heap.size + 1) (w.heap.size + 1) 0 0 [] ∧ Box2 wr w.heap.size (.int .i64 n) (.slice A 0 c) ∧ Below w.heap.size w wr) (fun _ _ _ => 0)
      case atStart => exact ⟨rfl, rfl, HR0.out, bx0, hB0⟩
      case round =>
        obtain ⟨rfl, rfl, hR, bx, hb⟩ := hrel
        clear bx0 hB0
        obtain ⟨bs, d0, d1, -, -⟩ := id bx
        go_wp2
        go_ret
        exact ⟨_, rfl, by rw [Ht.out]; exact hR.ints.mono (by omega), hb⟩
  | true =>
    obtain ⟨n2, n5, hl7, -⟩ := netOk_parts hok
    obtain ⟨N, rfl⟩ := Int.eq_ofNat_of_zero_le (show 0 ≤ n by omega)
    have Ht : Hid (treeR (N : Int) ps = treeL N ps) := Lib.hid (by rw [treeR, if_pos hok, Int.toNat_natCast])
    have HE := Lib.hid (show ∀ p ∈ ps, endsIn (N : Int) p from net_endsIn hok)
    have HK := Lib.hid hok
    have hB0 : Below w.heap.size w ((w.alloc (.cells #[.int .i64 (N : Int), .slice A ps.length c] 25)).alloc (.cells #[] 3)) := by (repeat (first | (with_reducible assumption) | (with_reducible exact Below.refl _ _) | ((with_reducible refine Below.alloc ?_ ?hsz _); (case hsz => (first | omega | (simp; done) | (simp; omega) | (simp at *; omega)))) | ((with_reducible refine Below.setCell ?_ ?hsz _); (case hsz => (first | omega | (simp; done) | (simp; omega) | (simp at *; omega)))) | (with_reducible refine Below.drew ?_) | (with_reducible refine below_drewN ?_ _) | ((with_reducible refine Below.trans ?_ (Below.mono (by with_reducible assumption) ?hsz)); (case hsz => (first | omega | (simp; done) | (simp; omega) | (simp at *; omega))))))
    obtain ⟨i0, hi0, hz0, hz1, hz2⟩ := info_parts int_info
    have HR0 := Lib.hid hR0
    clear hok hR0
    go_enter Try.func77, Try.ntmps77
    go_wp2
    go_loopw [4, 3] (fun i t wr => ∃ k j g1 c1 : Nat, k ≤ ps.length ∧ i = .int .i64 (k : Int) ∧ t = .slice (some ⟨g1, 0, none⟩) j c1 ∧ Row wr (w.heap.size + 1) g1 j c1 (numW k (treeF N ps)) ∧ Box2 wr w.heap.size (.int .i64 (N : Int)) (.slice A ps.length c) ∧ Below w.heap.size w wr) (fun i _ _ => ps.length - (intOf i).toNat)
    case atStart => exact ⟨0, 0, w.heap.size + 1, 0, by omega, rfl, rfl, HR0.out, bx0, hB0⟩
    case round =>
      obtain ⟨k, j, g1, c1, hk, rfl, rfl, hR, bx, hb⟩ := hrel
      clear bx0 hB0 HR0
      obtain ⟨bs, d0, d1, -, -⟩ := id bx
      have hjk : j ≤ k := by rw [← hR.len]; exact numW_len k _
      by_cases hlt : k < ps.length
      · go_wp2_with fail
        refine (specNetOk_any _ _ ps b _ (hp0.keep hb)).mono ?_
        rintro e w1 ⟨rfl, hb1⟩
        rw [HK.out]
        have hB1 := hb.trans (hb1.mono hb.size)
        have hR1 := hR.keep hb1
        have bx1 := bx.keep hb1
        clear hb1 hR bx hb d0 d1 bs
        obtain ⟨bs, d0, d1, -, -⟩ := id bx1
        go_wp2_with fail
        refine (specLabels_any N _ _ ps (numW k (treeF N ps)) b (w.heap.size + 1) _ (hp0.keep hB1) (by have := hR1.ints; exact this) HK.out (treeN_bd hk)).mono ?_
        rintro e w2 ⟨r, rfl, hr, hb2⟩
        have hB2 := hB1.trans (hb2.mono hB1.size)
        have hR2 := hR1.keep hb2
        have bx2 := bx1.keep hb2
        obtain ⟨gl, cl, hv, hRl⟩ := hr.row (by rw [sLabs_len]; omega)
        rw [sLabs_len] at hv hRl
        subst hv
        clear hb2 hR1 bx1 hr d0 d1 bs
        obtain ⟨bs, d0, d1, -, -⟩ := id bx2
        have HF := Lib.hid (treeF_labs (k := k) HE.out hlt)
        obtain ⟨g, rfl, hg1, hg2, q0, q1, q2, q3, q4⟩ := hcell w2 hB2 k hlt
        obtain ⟨a0, a1, b0, b1, -⟩ := HE.out ps[k] (List.getElem_mem hlt)
        have hgz : ps.getD k zeroPp = ps[k] := by simp [List.getD_eq_getElem?_getD, hlt]
        obtain ⟨a, ha⟩ : ∃ a : Nat, ps[k].fr = (a : Int) := ⟨ps[k].fr.toNat, by omega⟩
        obtain ⟨e, he⟩ : ∃ e : Nat, ps[k].to = (e : Int) := ⟨ps[k].to.toNat, by omega⟩
        rw [ha] at a0 a1 q0
        rw [he] at b0 b1 q1
        obtain ⟨y0, -⟩ := hRl.at' a (by omega)
        obtain ⟨y1, -⟩ := hRl.at' e (by omega)
        have hglr := hRl.lt.2
        have hcp := hRl.capd
        have hcq := hR2.capd
        unfold maxLen at hcp hcq
        obtain ⟨M, hM⟩ : ∃ M, sLabs N ps (numW k (treeF N ps)) = M := ⟨_, rfl⟩
        rw [hM] at y0 y1 HF hRl
        obtain ⟨la, hla⟩ : ∃ x, M.getD a 0 = x := ⟨_, rfl⟩
        obtain ⟨lb, hlb⟩ : ∃ x, M.getD e 0 = x := ⟨_, rfl⟩
        rw [hla] at y0
        rw [hlb] at y1
        have HF2 : Hid (treeF N ps k = !decide (la = lb)) := Lib.hid (by
          rw [HF.out, hgz]
          unfold lab
          rw [ha, he, Int.toNat_natCast, Int.toNat_natCast, hla, hlb])
        have haN : (a : Int) < (N : Int) := a1
        have heN : (e : Int) < (N : Int) := b1
        have hzb := hB2.size
        have hgr : g < w2.heap.size := by omega
        have hkL : (k : Int) < (ps.length : Int) := by omega
        clear hM hla hlb ha he hgz HF
        by_cases hq : la = lb
        · have hq1 : (la != lb) = false := by simp [hq]
          have HT : Hid (treeF N ps k = false) := Lib.hid (by rw [HF2.out, hq]; simp)
          clear hq
          go_wp2
          go_quiet (fail)
          go_wp2
          go_roundw
          case rel => exact ⟨k + 1, j, g1, c1, by omega, by go_num, rfl, by rw [numW_no HT.out]; exact hR2.keep (by (repeat (first | (with_reducible assumption) | (with_reducible exact Below.refl _ _) | ((with_reducible refine Below.alloc ?_ ?hsz _); (case hsz => (first | omega | (simp; done) | (simp; omega) | (simp at *; omega)))) | ((with_reducible refine Below.setCell ?_ ?hsz _); (case hsz => (first | omega | (simp; done) | (simp; omega) | (simp at *; omega)))) | (with_reducible refine Below.drew ?_) | (with_reducible refine below_drewN ?_ _) | ((with_reducible refine Below.trans ?_ (Below.mono (by with_reducible assumption) ?hsz)); (case hsz => (first | omega | (simp; done) | (simp; omega) | (simp at *; omega))))))), bx2.keep (by (repeat (first | (with_reducible assumption) | (with_reducible exact Below.refl _ _) | ((with_reducible refine Below.alloc ?_ ?hsz _); (case hsz => (first | omega | (simp; done) | (simp; omega) | (simp at *; omega)))) | ((with_reducible refine Below.setCell ?_ ?hsz _); (case hsz => (first | omega | (simp; done) | (simp; omega) | (simp at *; omega)))) | (with_reducible refine Below.drew ?_) | (with_reducible refine below_drewN ?_ _) | ((with_reducible refine Below.trans ?_ (Below.mono (by with_reducible assumption) ?hsz)); (case hsz => (first | omega | (simp; done) | (simp; omega) | (simp at *; omega))))))), by (repeat (first | (with_reducible assumption) | (with_reducible exact Below.refl _ _) | ((with_reducible refine Below.alloc ?_ ?hsz _); (case hsz => (first | omega | (simp; done) | (simp; omega) | (simp at *; omega)))) | ((with_reducible refine Below.setCell ?_ ?hsz _); (case hsz => (first | omega | (simp; done) | (simp; omega) | (simp at *; omega)))) | (with_reducible refine Below.drew ?_) | (with_reducible refine below_drewN ?_ _) | ((with_reducible refine Below.trans ?_ (Below.mono (by with_reducible assumption) ?hsz)); (case hsz => (first | omega | (simp; done) | (simp; omega) | (simp at *; omega))))))⟩
          case measure => simp [intOf]; omega
        · have hq1 : (la != lb) = true := by simp [hq]
          have HT : Hid (treeF N ps k = true) := Lib.hid (by rw [HF2.out]; simp [hq])
          clear hq
          go_wp2
          go_quiet (fail)
          have hBq : Below w2.heap.size w2 (w2.drewN nq) := by (repeat (first | (with_reducible assumption) | (with_reducible exact Below.refl _ _) | ((with_reducible refine Below.alloc ?_ ?hsz _); (case hsz => (first | omega | (simp; done) | (simp; omega) | (simp at *; omega)))) | ((with_reducible refine Below.setCell ?_ ?hsz _); (case hsz => (first | omega | (simp; done) | (simp; omega) | (simp at *; omega)))) | (with_reducible refine Below.drew ?_) | (with_reducible refine below_drewN ?_ _) | ((with_reducible refine Below.trans ?_ (Below.mono (by with_reducible assumption) ?hsz)); (case hsz => (first | omega | (simp; done) | (simp; omega) | (simp at *; omega))))))
          have hR3 := hR2.keep hBq
          have bx3 := bx2.keep hBq
          have hB3 : Below w.heap.size w (w2.drewN nq) := by (repeat (first | (with_reducible assumption) | (with_reducible exact Below.refl _ _) | ((with_reducible refine Below.alloc ?_ ?hsz _); (case hsz => (first | omega | (simp; done) | (simp; omega) | (simp at *; omega)))) | ((with_reducible refine Below.setCell ?_ ?hsz _); (case hsz => (first | omega | (simp; done) | (simp; omega) | (simp at *; omega)))) | (with_reducible refine Below.drew ?_) | (with_reducible refine below_drewN ?_ _) | ((with_reducible refine Below.trans ?_ (Below.mono (by with_reducible assumption) ?hsz)); (case hsz => (first | omega | (simp; done) | (simp; omega) | (simp at *; omega))))))
          generalize w2.drewN nq = wz at *
          clear hBq hR2 bx2 hB2 hzb bs d0 d1 y0 y1 hglr
          have hzb := hB3.size
          obtain ⟨bs, d0, d1, -, -⟩ := id bx3
          have hown := hR3.1
          have hrow : ∀ q, (Value.slice (some ⟨g1, 0, none⟩) j c1).ownBlock = some q → w.heap.size + 1 ≤ q := fun q hq => (hown.lt q hq).1
          go_wp2_with (first
            | (at_builtin
               go_must (refine wpList_append_lies _ rfl _ _ 40 rfl (w.heap.size + 1) 3 i0 _ 1 8 Try.underlying40 hi0 hz0 hz1 hz2 rfl (by omega) _ j _ rfl (hown.alloc _) ⟨wz.heap.size, 0, none⟩ 1 1 [.int .i64 (k : Int)] rfl rfl (World.news_of_block (cs := #[.int .i64 (k : Int)]) (t := 3) (fr := (0, 0)) (heap_alloc_new _ _)) (by simp [Value.oneCell']) (by omega) (by unfold maxLen; omega) (by omega) (by simp; omega) _ rfl ?_)
               intro g2 k2 w7 hown7 hgr7 hat7 hlt7))
          have bx7 := (bx3.keep ((Below.refl _ _).alloc (Nat.le_refl _) _)).grown hgr7 (by intro h; have := hrow _ h.symm; omega)
          have hb7 : Below w.heap.size w w7 := Below.grown (w := wz.alloc (.cells #[.int .i64 (k : Int)] 3)) (by (repeat (first | (with_reducible assumption) | (with_reducible exact Below.refl _ _) | ((with_reducible refine Below.alloc ?_ ?hsz _); (case hsz => (first | omega | (simp; done) | (simp; omega) | (simp at *; omega)))) | ((with_reducible refine Below.setCell ?_ ?hsz _); (case hsz => (first | omega | (simp; done) | (simp; omega) | (simp at *; omega)))) | (with_reducible refine Below.drew ?_) | (with_reducible refine below_drewN ?_ _) | ((with_reducible refine Below.trans ?_ (Below.mono (by with_reducible assumption) ?hsz)); (case hsz => (first | omega | (simp; done) | (simp; omega) | (simp at *; omega))))))) hgr7 (by (first | omega | (simp; done) | (simp; omega) | (simp at *; omega))) (fun q hq => by have := hrow q hq; omega)
          have hR8 : Row w7 (w.heap.size + 1) g2 (j + 1) k2 (numW (k + 1) (treeF N ps)) := ⟨by rw [numW_yes HT.out, List.map_append]; exact hown7, by unfold small; omega⟩
          clear hown7 hgr7 hat7 hlt7 bx3 hown hrow hR3
          go_wp2
          go_roundw
          case rel => exact ⟨k + 1, j + 1, g2, k2, by omega, by go_num, rfl, hR8, bx7, hb7⟩
          case measure => simp [intOf]; omega
      · have hk2 : k = ps.length := by omega
        subst hk2
        go_wp2
        go_ret
        exact ⟨_, rfl, by rw [Ht.out]; exact hR.ints.mono (by omega), hb⟩

end Go.Proofs.Ytphbmlephldaaaa
