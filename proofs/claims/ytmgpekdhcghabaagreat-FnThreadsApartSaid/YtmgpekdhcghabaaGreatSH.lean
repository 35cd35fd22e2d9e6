/- Contracts of the functions of chapter 3 in the model: pushes along a way. -/
import Derived.Test.YtmgpekdhcghabaaGreatSG
import Derived.Test.YtmgpekdhcghabaaGreatGR26
import Derived.Test.YtmgpekdhcghabaaGreatGR5
namespace Go.Proofs.YtmgpekdhcghabaaGreat
open Go.RowKit

theorem roomL_snoc' (ps : List Pp) (xs : List Int) (r : Int) (l : List Nat) (k : Nat) (hk : k < l.length) : roomL ps xs r (l.take (k + 1)) = min (roomL ps xs r (l.take k)) (stRoom ps xs l[k]) := by
  rw [List.take_succ_eq_append_getElem hk, roomL, List.foldl_append]
  rfl
theorem pushL_snoc' (a : Int) (xs : List Int) (l : List Nat) (k : Nat) (hk : k < l.length) : pushL a xs (l.take (k + 1)) = push1 a (pushL a xs (l.take k)) l[k] := by
  rw [List.take_succ_eq_append_getElem hk, pushL, List.foldl_append]
  rfl

set_option maxHeartbeats 4000000 in
set_option maxRecDepth 20000 in
theorem specPush_any (n : Int) (v u u0 : Value) (l : List Nat) (ps : List Pp) (xs : List Int) (b b' b0 : Nat) (w : World) (hp : Pipes w b v ps) (hx : Ints w b' u xs) (h0 : Ints w b0 u0 (l.map fun s : Nat => (s : Int))) (hl7 : ps.length ≤ 7) (hlen : xs.length = ps.length) (hpos : 0 < xs.length)
    (ha : ∀ x ∈ xs, 0 ≤ x ∧ x ≤ 40) (hr : ∀ p ∈ ps, 0 ≤ p.le ∧ p.le ≤ p.mo ∧ p.mo ≤ 4) (hs : ∀ s ∈ l, s < 2 * ps.length) (am : Int) (ham : roomL ps xs 40 l = am)
    (hbd : ∀ k j, 0 ≤ (pushL am xs (l.take k)).getD j 0 ∧ (pushL am xs (l.take k)).getD j 0 ≤ 40) (hd : 0 ≤ am ∧ am ≤ 40) :
    Calls Tryz.prog 118 #[.agg #[.int .i64 n, v], u, u0] w fun e w' => ∃ r, e = .returned r ∧ Ints w' w.heap.size r (pushL am xs l) ∧ Below w.heap.size w w' := by
  have hp0 := hp
  obtain ⟨A, c, rfl, hc1, hc2, hsm, -⟩ := hp.form
  obtain ⟨gx, cx, rfl, hRx⟩ := hx.row hpos
  obtain ⟨A0, c0, rfl, hc01, hc02, hsm0, hcell0⟩ := h0.form
  unfold maxLen at hc2 hc02
  obtain ⟨hx1, hx2⟩ := hRx.lt
  obtain ⟨hcx1, hcx2⟩ := hRx.capd
  unfold maxLen at hcx2
  have hlS : (l.map fun s : Nat => (s : Int)).length = l.length := by simp
  rw [hlS] at hc01 hsm0 ⊢
  have hlS := Lib.hid hlS
  have hcell0 := Lib.hid hcell0
  have HH := Lib.hid (And.intro hlen (And.intro ha (And.intro hr hx)))
  have HS := Lib.hid hs
  have HB := Lib.hid hbd
  have HA := Lib.hid ham
  have hx7 : xs.length ≤ 7 := by omega
  obtain ⟨i0, hi0, hz0, hz1, hz2⟩ := info_parts int_info
  have bx0 := Box2.new w (.int .i64 n) (.slice A ps.length c) 25
  have hB0 : Below w.heap.size w (w.alloc (.cells #[.int .i64 n, .slice A ps.length c] 25)) := by (repeat (first | (with_reducible assumption) | (with_reducible exact Below.refl _ _) | ((with_reducible refine Below.alloc ?_ ?hsz _); (case hsz => (first | omega | (simp; done) | (simp; omega) | (simp at *; omega)))) | ((with_reducible refine Below.setCell ?_ ?hsz _); (case hsz => (first | omega | (simp; done) | (simp; omega) | (simp at *; omega)))) | (with_reducible refine Below.drew ?_) | (with_reducible refine below_drewN ?_ _) | ((with_reducible refine Below.trans ?_ (Below.mono (by with_reducible assumption) ?hsz)); (case hsz => (first | omega | (simp; done) | (simp; omega) | (simp at *; omega))))))
  clear hlen ha hr hs hbd ham hx h0
  go_enter Tryz.func118, Tryz.ntmps118
  go_wp2_with fail
  go_loopw [7, 8] (fun t7 t8 wr => ∃ k : Nat, k ≤ l.length ∧ t8 = .int .i64 k ∧ t7 = .int .i64 (roomL ps xs 40 (l.take k)) ∧ Box2 wr w.heap.size (.int .i64 n) (.slice A ps.length c) ∧ Below w.heap.size w wr) (fun _ t8 _ => l.length - (intOf t8).toNat)
  case atStart => exact ⟨0, by omega, rfl, rfl, bx0, hB0⟩
  case round =>
    obtain ⟨k, hk, rfl, rfl, bx, hb⟩ := hrel
    clear bx0 hB0
    obtain ⟨bs, d0, d1, -, -⟩ := id bx
    have hzb := hb.size
    by_cases hlt : k < l.length
    · obtain ⟨gw, rfl, -, gw2, cw, -⟩ := hcell0.out wr hb k (by rw [hlS.out]; exact hlt)
      replace cw : wr.cell? ⟨gw, k, none⟩ = some (.int .i64 (l[k] : Nat)) := by rw [cw]; simp
      have Hn := Lib.hid (roomL_snoc' ps xs 40 l k hlt)
      generalize roomL ps xs 40 (l.take k) = ro at *
      have hd0 := fun p : Bw wr => (bw_cell p bs).trans d0
      have hd1 := fun p : Bw wr => (bw_cell p bs).trans d1
      have hd2 := fun p : Bw wr => (bw_cell p (show gw < wr.heap.size by omega)).trans cw
      go_wp2_with fail
      refine wp_region_bw (by kernel_rfl) (by kernel_rfl) ?_
      repeat (go_big_quiet_step ((go_at_call 135; refine calls_bw (specStep_any l[k] n _ _ ps xs b b' _ ((hp0.keep hb).keep (Bw.h _)) ((HH.out.2.2.2.keep hb).keep (Bw.h _)) (HS.out _ (List.getElem_mem hlt)) HH.out.1 HH.out.2.1 HH.out.2.2.1))))
      refine wpQuiet_nil ?_
      rintro _ ⟨pw, rfl⟩
      have hpw := pw.h
      have bx2 := bx.keep hpw
      have hb2 := hb.trans (hpw.mono hzb)
      obtain ⟨wq, hwq⟩ : ∃ wq, wq = pw.v := ⟨_, rfl⟩
      rw [← hwq] at bx2 hb2 ⊢
      clear hd0 hd1 hd2 hwq hpw cw d0 d1 bs bx hb
      generalize stRoom ps xs l[k] = rs at *
      by_cases hrs : rs < ro
      · have hmin : min ro rs = rs := by omega
        rw [hmin] at Hn
        have hrd : decide (rs < ro) = true := by simpa using hrs
        clear hmin
        go_wp2
        go_roundw
        case rel => exact ⟨k + 1, by omega, by go_num, by rw [Hn.out], bx2, hb2⟩
        case measure => simp [intOf]; omega
      · have hmin : min ro rs = ro := by omega
        rw [hmin] at Hn
        have hrd : decide (rs < ro) = false := by simpa using hrs
        clear hmin
        go_wp2
        go_roundw
        case rel => exact ⟨k + 1, by omega, by go_num, by rw [Hn.out], bx2, hb2⟩
        case measure => simp [intOf]; omega
    · have hk2 : k = l.length := by omega
      subst hk2
      rw [List.take_length, HA.out]
      have hnews : Hid (∀ jj uu, (xs.map (Value.int .i64))[jj]? = some uu → (wr.alloc (.cells #[] 3)).cell? ((⟨gx, 0, none⟩ : Addr).add jj) = some uu) := Lib.hid (by
        intro jj uu hj
        have hjl : jj < xs.length := by
          have := (List.getElem?_eq_some_iff.1 hj).1
          simpa using this
        rw [add_plain, Nat.zero_add]
        refine (World.cell?_alloc_lt _ _ _ (by simp; omega)).trans ?_
        refine (hb.cell (p := ⟨gx, jj, none⟩) hx2).trans ?_
        rw [(hRx.at' jj hjl).1, ← hj]
        simp [List.getD_eq_getElem?_getD, hjl])
      have hown0 := World.ownsRow_lit (e := 3) (base := wr.heap.size) (size := 1) wr #[] 0 (Nat.le_refl _) (by simp [maxLen]) rfl
      go_wp2_with (first
        | (at_builtin
           go_must (refine wpList_append_lies _ rfl _ _ 30 rfl wr.heap.size 3 i0 _ 1 8 Tryz.underlying30 hi0 hz0 hz1 hz2 rfl (by omega) _ 0 [] rfl hown0 ⟨gx, 0, none⟩ xs.length cx (xs.map (Value.int .i64)) rfl (by simp) hnews.out (by simp [Value.oneCell']) hpos (by unfold maxLen; omega) (by omega) (by simp) _ rfl ?_)
           intro g2 k2 w7 hown7 hgr7 hat7 hlt7))
      rw [Nat.zero_add, List.nil_append] at hown7
      have hsmx : xs.length ≤ small := hRx.2
      have hb7 : Below w.heap.size w w7 := Below.grown (w := wr.alloc (.cells #[] 3)) (by (repeat (first | (with_reducible assumption) | (with_reducible exact Below.refl _ _) | ((with_reducible refine Below.alloc ?_ ?hsz _); (case hsz => (first | omega | (simp; done) | (simp; omega) | (simp at *; omega)))) | ((with_reducible refine Below.setCell ?_ ?hsz _); (case hsz => (first | omega | (simp; done) | (simp; omega) | (simp at *; omega)))) | (with_reducible refine Below.drew ?_) | (with_reducible refine below_drewN ?_ _) | ((with_reducible refine Below.trans ?_ (Below.mono (by with_reducible assumption) ?hsz)); (case hsz => (first | omega | (simp; done) | (simp; omega) | (simp at *; omega))))))) hgr7 (by (first | omega | (simp; done) | (simp; omega) | (simp at *; omega))) (fun q hq => by
        have hq' : wr.heap.size = q := by injection hq
        omega)
      have hR7 : Row w7 w.heap.size g2 xs.length k2 xs := (Row.mono (b := wr.heap.size) ⟨hown7, hsmx⟩ hzb)
      have HR7 := Lib.hid hR7
      have hg2w : w.heap.size ≤ g2 := hR7.lt.1
      clear hown7 hgr7 hat7 hlt7 hown0 hnews hR7
      go_wp2_with fail
      go_loopw [13] (fun t13 ws => ∃ k : Nat, k ≤ l.length ∧ t13 = .int .i64 k ∧ Row ws w.heap.size g2 xs.length k2 (pushL am xs (l.take k)) ∧ Below w.heap.size w ws) (fun t13 _ => l.length - (intOf t13).toNat)
      case atStart => exact ⟨0, by omega, rfl, HR7.out, hb7⟩
      case round =>
        clear HR7 hb7 hb bx d0 d1 bs hzb
        obtain ⟨k, hk, rfl, hR, hb⟩ := hrel
        have hzb := hb.size
        by_cases hlt : k < l.length
        · obtain ⟨gw, rfl, -, gw2, cw, -⟩ := hcell0.out wr hb k (by rw [hlS.out]; exact hlt)
          obtain ⟨s, hsk⟩ : ∃ s, l[k] = s := ⟨_, rfl⟩
          replace cw : wr.cell? ⟨gw, k, none⟩ = some (.int .i64 (s : Int)) := by rw [cw]; simp [hsk]
          have hs2 := HS.out _ (List.getElem_mem hlt)
          rw [hsk] at hs2
          have hpn := pushL_snoc' am xs l k hlt
          rw [hsk] at hpn
          have hbk := HB.out k
          generalize pushL am xs (l.take k) = ys at *
          obtain ⟨q, hq⟩ : ∃ q, s / 2 = q := ⟨_, rfl⟩
          have hqx : q < xs.length := by have := HH.out.1; omega
          obtain ⟨y0, y1⟩ := hR.at' q hqx
          obtain ⟨z, hz⟩ : ∃ z, ys.getD q 0 = z := ⟨_, rfl⟩
          have hzb2 := hbk q
          rw [hz] at y0 hzb2
          have hq1 : (s : Int) / 2 = (q : Int) := by omega
          have hq2 : (s : Int).tdiv 2 = (q : Int) := by rw [Int.tdiv_eq_ediv_of_nonneg (Int.natCast_nonneg s)]; exact hq1
          have hq3 : IntKind.i64.wrap (q : Int) = (q : Int) := IntWalk.i64_in _ (by omega)
          have hq4 : (0 : Int) ≤ (q : Int) := by omega
          have hRg := hR.lt
          have hRc := hR.capd
          unfold maxLen at hRc
          clear hbk
          rcases (show s % 2 = 1 ∨ s % 2 = 0 by omega) with hm | hm
          · have hmi : ((s : Int) % 2 == 0) = false := by rw [beq_eq_false_iff_ne]; omega
            have hR3 := (hR.set q (z - am)).drew
            rw [show ys.set q (z - am) = push1 am ys s by rw [push1, if_pos hm, hq, hz], ← hpn] at hR3
            have HR3 := Lib.hid hR3
            clear hR3 hR hpn hz hm hq
            go_wp2_with fail
            go_region
            all_goals
              go_wp2
              go_roundw
              case rel => exact ⟨k + 1, by omega, by go_num, HR3.out, by (repeat (first | (with_reducible assumption) | (with_reducible exact Below.refl _ _) | ((with_reducible refine Below.alloc ?_ ?hsz _); (case hsz => (first | omega | (simp; done) | (simp; omega) | (simp at *; omega)))) | ((with_reducible refine Below.setCell ?_ ?hsz _); (case hsz => (first | omega | (simp; done) | (simp; omega) | (simp at *; omega)))) | (with_reducible refine Below.drew ?_) | (with_reducible refine below_drewN ?_ _) | ((with_reducible refine Below.trans ?_ (Below.mono (by with_reducible assumption) ?hsz)); (case hsz => (first | omega | (simp; done) | (simp; omega) | (simp at *; omega))))))⟩
              case measure => simp [intOf]; omega
          · have hmi : ((s : Int) % 2 == 0) = true := by rw [beq_iff_eq]; omega
            have hR3 := (hR.set q (z + am)).drew
            rw [show ys.set q (z + am) = push1 am ys s by rw [push1, if_neg (by omega), hq, hz], ← hpn] at hR3
            have HR3 := Lib.hid hR3
            clear hR3 hR hpn hz hm hq
            go_wp2_with fail
            go_region
            all_goals
              go_wp2
              go_roundw
              case rel => exact ⟨k + 1, by omega, by go_num, HR3.out, by (repeat (first | (with_reducible assumption) | (with_reducible exact Below.refl _ _) | ((with_reducible refine Below.alloc ?_ ?hsz _); (case hsz => (first | omega | (simp; done) | (simp; omega) | (simp at *; omega)))) | ((with_reducible refine Below.setCell ?_ ?hsz _); (case hsz => (first | omega | (simp; done) | (simp; omega) | (simp at *; omega)))) | (with_reducible refine Below.drew ?_) | (with_reducible refine below_drewN ?_ _) | ((with_reducible refine Below.trans ?_ (Below.mono (by with_reducible assumption) ?hsz)); (case hsz => (first | omega | (simp; done) | (simp; omega) | (simp at *; omega))))))⟩
              case measure => simp [intOf]; omega
        · have hk2 : k = l.length := by omega
          subst hk2
          rw [List.take_length] at hR
          go_wp2
          go_ret
          exact ⟨_, rfl, hR.ints, hb⟩

end Go.Proofs.YtmgpekdhcghabaaGreat
