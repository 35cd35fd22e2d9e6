/- Contracts of the functions of chapter 5 in the model: CirculationOf. -/
import Derived.Test.YtangnecgnclobaaGE16
import Derived.Test.YtangnecgnclobaaGE7
import Derived.Test.YtangnecgnclobaaSI
import Derived.Test.YtangnecgnclobaaS3
import Derived.Test.YtangnecgnclobaaGE3
namespace Go.Proofs.Ytangnecgnclobaa
open Go.RowKit

set_option maxHeartbeats 4000000 in
set_option maxRecDepth 20000 in
theorem l5Pushed_any (n mo : Int) (v u u0 : Value) (l : List Nat) (ps : List Pp) (xs : List Int) (b b' b0 : Nat) (w : World) (hp : Pipes w b v ps) (hx : Ints w b' u xs) (h0 : Ints w b0 u0 (l.map fun s : Nat => (s : Int))) (hl7 : ps.length ≤ 7) (hlen : xs.length = ps.length) (hpos : 0 < xs.length)
    (ha : ∀ x ∈ xs, 0 ≤ x ∧ x ≤ 40) (hr : ∀ p ∈ ps, 0 ≤ p.le ∧ p.le ≤ p.mo ∧ p.mo ≤ 4) (hs : ∀ s ∈ l, s < 2 * ps.length) (am : Int) (ham : roomL ps xs mo l = am)
    (hbd : ∀ k j, 0 ≤ (pushL am xs (l.take k)).getD j 0 ∧ (pushL am xs (l.take k)).getD j 0 ≤ 40) (hd : 0 ≤ am ∧ am ≤ 40) :
    Calls Try.prog 69 #[.agg #[.int .i64 n, v], u, u0, .int .i64 mo] w fun e w' => ∃ r, e = .returned r ∧ Ints w' w.heap.size r (pushL am xs l) ∧ Below w.heap.size w w' := by
  have hp0 := hp
  obtain ⟨A, c, rfl, hc1, hc2, hsm, -⟩ := hp.form
  obtain ⟨gx, cx, rfl, hRx⟩ := hx.row hpos
  obtain ⟨A0, c0, rfl, hc01, hc02, hsm0, hcell0⟩ := h0.form
  unfold maxLen at hc2 hc02
  obtain ⟨hx1, hx2⟩ := hRx.lt
  obtain ⟨hcx1, hcx2⟩ := hRx.capd
  unfold maxLen at hcx2
  have hlS : (l.map fun s : Nat => (s : Int)).length = l.length := by simp
  rw [hlS] at hc01 hsm0 ⊢
  have hlS := Lib.hid hlS
  have hcell0 := Lib.hid hcell0
  have HH := Lib.hid (And.intro hlen (And.intro ha (And.intro hr hx)))
  have HS := Lib.hid hs
  have HB := Lib.hid hbd
  have HA := Lib.hid ham
  have hx7 : xs.length ≤ 7 := by omega
  obtain ⟨i0, hi0, hz0, hz1, hz2⟩ := info_parts int_info
  have bx0 := Box2.new w (.int .i64 n) (.slice A ps.length c) 32
  have hB0 : Below w.heap.size w (w.alloc (.cells #[.int .i64 n, .slice A ps.length c] 32)) := by (repeat (first | (with_reducible assumption) | (with_reducible exact Below.refl _ _) | ((with_reducible refine Below.alloc ?_ ?hsz _); (case hsz => (first | omega | (simp; done) | (simp; omega) | (simp at *; omega)))) | ((with_reducible refine Below.setCell ?_ ?hsz _); (case hsz => (first | omega | (simp; done) | (simp; omega) | (simp at *; omega)))) | (with_reducible refine Below.drew ?_) | (with_reducible refine below_drewN ?_ _) | ((with_reducible refine Below.trans ?_ (Below.mono (by with_reducible assumption) ?hsz)); (case hsz => (first | omega | (simp; done) | (simp; omega) | (simp at *; omega))))))
  clear hlen ha hr hs hbd ham hx h0
  go_enter Try.func69, Try.ntmps69
  go_wp2_with fail
  go_loopw [9, 10] (fun t7 t8 wr => ∃ k : Nat, k ≤ l.length ∧ t8 = .int .i64 k ∧ t7 = .int .i64 (roomL ps xs mo (l.take k)) ∧ Box2 wr w.heap.size (.int .i64 n) (.slice A ps.length c) ∧ Below w.heap.size w wr) (fun _ t8 _ => l.length - (intOf t8).toNat)
  case atStart => exact ⟨0, by omega, rfl, rfl, bx0, hB0⟩
  case round =>
    obtain ⟨k, hk, rfl, rfl, bx, hb⟩ := hrel
    clear bx0 hB0
    obtain ⟨bs, d0, d1, -, -⟩ := id bx
    have hzb := hb.size
    by_cases hlt : k < l.length
    · obtain ⟨gw, rfl, -, gw2, cw, -⟩ := hcell0.out wr hb k (by rw [hlS.out]; exact hlt)
      replace cw : wr.cell? ⟨gw, k, none⟩ = some (.int .i64 (l[k] : Nat)) := by rw [cw]; simp
      have Hn := Lib.hid (roomL_snoc' ps xs mo l k hlt)
      generalize roomL ps xs mo (l.take k) = ro at *
      have hd0 := fun p : Bw wr => (bw_cell p bs).trans d0
      have hd1 := fun p : Bw wr => (bw_cell p bs).trans d1
      have hd2 := fun p : Bw wr => (bw_cell p (show gw < wr.heap.size by omega)).trans cw
      go_wp2_with fail
      refine wp_region_bw (by kernel_rfl) (by kernel_rfl) ?_
      repeat (go_big_quiet_step ((go_at_call 101; refine calls_bw (specStep_any l[k] n _ _ ps xs b b' _ ((hp0.keep hb).keep (Bw.h _)) ((HH.out.2.2.2.keep hb).keep (Bw.h _)) (HS.out _ (List.getElem_mem hlt)) HH.out.1 HH.out.2.1 HH.out.2.2.1))))
      refine wpQuiet_nil ?_
      rintro _ ⟨pw, rfl⟩
      have hpw := pw.h
      have bx2 := bx.keep hpw
      have hb2 := hb.trans (hpw.mono hzb)
      obtain ⟨wq, hwq⟩ : ∃ wq, wq = pw.v := ⟨_, rfl⟩
      rw [← hwq] at bx2 hb2 ⊢
      clear hd0 hd1 hd2 hwq hpw cw d0 d1 bs bx hb
      generalize stRoom ps xs l[k] = rs at *
      by_cases hrs : rs < ro
      · have hmin : min ro rs = rs := by omega
        rw [hmin] at Hn
        have hrd : decide (rs < ro) = true := by simpa using hrs
        clear hmin
        go_wp2
        go_roundw
        case rel => exact ⟨k + 1, by omega, by go_num, by rw [Hn.out], bx2, hb2⟩
        case measure => simp [intOf]; omega
      · have hmin : min ro rs = ro := by omega
        rw [hmin] at Hn
        have hrd : decide (rs < ro) = false := by simpa using hrs
        clear hmin
        go_wp2
        go_roundw
        case rel => exact ⟨k + 1, by omega, by go_num, by rw [Hn.out], bx2, hb2⟩
        case measure => simp [intOf]; omega
    · have hk2 : k = l.length := by omega
      subst hk2
      rw [List.take_length, HA.out]
      have hnews : Hid (∀ jj uu, (xs.map (Value.int .i64))[jj]? = some uu → (wr.alloc (.cells #[] 3)).cell? ((⟨gx, 0, none⟩ : Addr).add jj) = some uu) := Lib.hid (by
        intro jj uu hj
        have hjl : jj < xs.length := by
          have := (List.getElem?_eq_some_iff.1 hj).1
          simpa using this
        rw [add_plain, Nat.zero_add]
        refine (World.cell?_alloc_lt _ _ _ (by simp; omega)).trans ?_
        refine (hb.cell (p := ⟨gx, jj, none⟩) hx2).trans ?_
        rw [(hRx.at' jj hjl).1, ← hj]
        simp [List.getD_eq_getElem?_getD, hjl])
      have hown0 := World.ownsRow_lit (e := 3) (base := wr.heap.size) (size := 1) wr #[] 0 (Nat.le_refl _) (by simp [maxLen]) rfl
      go_wp2_with (first
        | (at_builtin
           go_must (refine wpList_append_lies _ rfl _ _ 25 rfl wr.heap.size 3 i0 _ 1 8 Try.underlying25 hi0 hz0 hz1 hz2 rfl (by omega) _ 0 [] rfl hown0 ⟨gx, 0, none⟩ xs.length cx (xs.map (Value.int .i64)) rfl (by simp) hnews.out (by simp [Value.oneCell']) hpos (by unfold maxLen; omega) (by omega) (by simp) _ rfl ?_)
           intro g2 k2 w7 hown7 hgr7 hat7 hlt7))
      rw [Nat.zero_add, List.nil_append] at hown7
      have hsmx : xs.length ≤ small := hRx.2
      have hb7 : Below w.heap.size w w7 := Below.grown (w := wr.alloc (.cells #[] 3)) (by (repeat (first | (with_reducible assumption) | (with_reducible exact Below.refl _ _) | ((with_reducible refine Below.alloc ?_ ?hsz _); (case hsz => (first | omega | (simp; done) | (simp; omega) | (simp at *; omega)))) | ((with_reducible refine Below.setCell ?_ ?hsz _); (case hsz => (first | omega | (simp; done) | (simp; omega) | (simp at *; omega)))) | (with_reducible refine Below.drew ?_) | (with_reducible refine below_drewN ?_ _) | ((with_reducible refine Below.trans ?_ (Below.mono (by with_reducible assumption) ?hsz)); (case hsz => (first | omega | (simp; done) | (simp; omega) | (simp at *; omega))))))) hgr7 (by (first | omega | (simp; done) | (simp; omega) | (simp at *; omega))) (fun q hq => by
        have hq' : wr.heap.size = q := by injection hq
        omega)
      have hR7 : Row w7 w.heap.size g2 xs.length k2 xs := (Row.mono (b := wr.heap.size) ⟨hown7, hsmx⟩ hzb)
      have HR7 := Lib.hid hR7
      have hg2w : w.heap.size ≤ g2 := hR7.lt.1
      clear hown7 hgr7 hat7 hlt7 hown0 hnews hR7
      go_wp2_with fail
      go_loopw [15] (fun t13 ws => ∃ k : Nat, k ≤ l.length ∧ t13 = .int .i64 k ∧ Row ws w.heap.size g2 xs.length k2 (pushL am xs (l.take k)) ∧ Below w.heap.size w ws) (fun t13 _ => l.length - (intOf t13).toNat)
      case atStart => exact ⟨0, by omega, rfl, HR7.out, hb7⟩
      case round =>
        clear HR7 hb7 hb bx d0 d1 bs hzb
        obtain ⟨k, hk, rfl, hR, hb⟩ := hrel
        have hzb := hb.size
        by_cases hlt : k < l.length
        · obtain ⟨gw, rfl, -, gw2, cw, -⟩ := hcell0.out wr hb k (by rw [hlS.out]; exact hlt)
          obtain ⟨s, hsk⟩ : ∃ s, l[k] = s := ⟨_, rfl⟩
          replace cw : wr.cell? ⟨gw, k, none⟩ = some (.int .i64 (s : Int)) := by rw [cw]; simp [hsk]
          have hs2 := HS.out _ (List.getElem_mem hlt)
          rw [hsk] at hs2
          have hpn := pushL_snoc' am xs l k hlt
          rw [hsk] at hpn
          have hbk := HB.out k
          generalize pushL am xs (l.take k) = ys at *
          obtain ⟨q, hq⟩ : ∃ q, s / 2 = q := ⟨_, rfl⟩
          have hqx : q < xs.length := by have := HH.out.1; omega
          obtain ⟨y0, y1⟩ := hR.at' q hqx
          obtain ⟨z, hz⟩ : ∃ z, ys.getD q 0 = z := ⟨_, rfl⟩
          have hzb2 := hbk q
          rw [hz] at y0 hzb2
          have hq1 : (s : Int) / 2 = (q : Int) := by omega
          have hq2 : (s : Int).tdiv 2 = (q : Int) := by rw [Int.tdiv_eq_ediv_of_nonneg (Int.natCast_nonneg s)]; exact hq1
          have hq3 : IntKind.i64.wrap (q : Int) = (q : Int) := IntWalk.i64_in _ (by omega)
          have hq4 : (0 : Int) ≤ (q : Int) := by omega
          have hRg := hR.lt
          have hRc := hR.capd
          unfold maxLen at hRc
          clear hbk
          rcases (show s % 2 = 1 ∨ s % 2 = 0 by omega) with hm | hm
          · have hmi : ((s : Int) % 2 == 0) = false := by rw [beq_eq_false_iff_ne]; omega
            have hR3 := (hR.set q (z - am)).drew
            rw [show ys.set q (z - am) = push1 am ys s by rw [push1, if_pos hm, hq, hz], ← hpn] at hR3
            have HR3 := Lib.hid hR3
            clear hR3 hR hpn hz hm hq
            go_wp2_with fail
            go_region
            all_goals
              go_wp2
              go_roundw
              case rel => exact ⟨k + 1, by omega, by go_num, HR3.out, by (repeat (first | (with_reducible assumption) | (with_reducible exact Below.refl _ _) | ((with_reducible refine Below.alloc ?_ ?hsz _); (case hsz => (first | omega | (simp; done) | (simp; omega) | (simp at *; omega)))) | ((with_reducible refine Below.setCell ?_ ?hsz _); (case hsz => (first | omega | (simp; done) | (simp; omega) | (simp at *; omega)))) | (with_reducible refine Below.drew ?_) | (with_reducible refine below_drewN ?_ _) | ((with_reducible refine Below.trans ?_ (Below.mono (by with_reducible assumption) ?hsz)); (case hsz => (first | omega | (simp; done) | (simp; omega) | (simp at *; omega))))))⟩
              case measure => simp [intOf]; omega
          · have hmi : ((s : Int) % 2 == 0) = true := by rw [beq_iff_eq]; omega
            have hR3 := (hR.set q (z + am)).drew
            rw [show ys.set q (z + am) = push1 am ys s by rw [push1, if_neg (by omega), hq, hz], ← hpn] at hR3
            have HR3 := Lib.hid hR3
            clear hR3 hR hpn hz hm hq
            go_wp2_with fail
            go_region
            all_goals
              go_wp2
              go_roundw
              case rel => exact ⟨k + 1, by omega, by go_num, HR3.out, by (repeat (first | (with_reducible assumption) | (with_reducible exact Below.refl _ _) | ((with_reducible refine Below.alloc ?_ ?hsz _); (case hsz => (first | omega | (simp; done) | (simp; omega) | (simp at *; omega)))) | ((with_reducible refine Below.setCell ?_ ?hsz _); (case hsz => (first | omega | (simp; done) | (simp; omega) | (simp at *; omega)))) | (with_reducible refine Below.drew ?_) | (with_reducible refine below_drewN ?_ _) | ((with_reducible refine Below.trans ?_ (Below.mono (by with_reducible assumption) ?hsz)); (case hsz => (first | omega | (simp; done) | (simp; omega) | (simp at *; omega))))))⟩
              case measure => simp [intOf]; omega
        · have hk2 : k = l.length := by omega
          subst hk2
          rw [List.take_length] at hR
          go_wp2
          go_ret
          exact ⟨_, rfl, hR.ints, hb⟩

theorem lit_own5 {w : World} {B g : Nat} {e size : Nat} (hb : B ≤ g) (h : w.heap[g]? = some (.cells #[] e (0, 0))) : w.ownsRow B e size (.slice (some ⟨g, 0, none⟩) 0 0) 0 [] :=
  ⟨by simp, .inr ⟨g, 0, #[], rfl, hb, h, Nat.le_refl _, by simp [maxLen], by simp, by simp⟩⟩
theorem ints_empty5 (w : World) {b g : Nat} (hb : b ≤ w.heap.size) (hg : g = w.heap.size) : Ints (w.alloc (.cells #[] 3)) b (.slice (some ⟨g, 0, none⟩) 0 0) [] := by
  subst hg
  exact ⟨lit_own5 hb (heap_alloc_new _ _), by simp [small]⟩

set_option maxHeartbeats 4000000 in
set_option maxRecDepth 20000 in
theorem l5Start_any (n : Int) (v : Value) (ps : List Pp) (b : Nat) (w : World) (hp : Pipes w b v ps) (hl7 : ps.length ≤ 7) :
    Calls Try.prog 66 #[.agg #[.int .i64 n, v]] w fun e w' => ∃ r, e = .returned r ∧ Ints w' w.heap.size r (leastL ps) ∧ Below w.heap.size w w' := by
  have hp0 := hp
  obtain ⟨A, c, rfl, hcp1, hcp2, -, hcell⟩ := hp.form
  unfold maxLen at hcp2
  obtain ⟨i0, hi0, hz0, hz1, hz2⟩ := info_parts int_info
  have bx0 := Box2.new w (.int .i64 n) (.slice A ps.length c) 32
  have hB0 : Below w.heap.size w ((w.alloc (.cells #[.int .i64 n, .slice A ps.length c] 32)).alloc (.cells #[] 3)) := by (repeat (first | (with_reducible assumption) | (with_reducible exact Below.refl _ _) | ((with_reducible refine Below.alloc ?_ ?hsz _); (case hsz => (first | omega | (simp; done) | (simp; omega) | (simp at *; omega)))) | ((with_reducible refine Below.setCell ?_ ?hsz _); (case hsz => (first | omega | (simp; done) | (simp; omega) | (simp at *; omega)))) | (with_reducible refine Below.drew ?_) | (with_reducible refine below_drewN ?_ _) | ((with_reducible refine Below.trans ?_ (Below.mono (by with_reducible assumption) ?hsz)); (case hsz => (first | omega | (simp; done) | (simp; omega) | (simp at *; omega))))))
  have bx1 := bx0.keep ((Below.refl _ _).alloc (Nat.le_refl _) (.cells #[] 3))
  have hemp := ints_empty5 (w.alloc (.cells #[.int .i64 n, .slice A ps.length c] 32)) (b := w.heap.size + 1) (g := w.heap.size + 1) (by simp) (by simp)
  have HE := Lib.hid hemp
  clear hemp bx0
  go_enter Try.func66, Try.ntmps66
  go_wp2_with fail
  go_loopw [4, 3] (fun i t wr => ∃ (k cap : Nat) (A1 : Option Addr), k ≤ ps.length ∧ i = .int .i64 k ∧ t = .slice A1 k cap ∧ Ints wr (w.heap.size + 1) (.slice A1 k cap) ((ps.take k).map Pp.le) ∧ Below w.heap.size w wr ∧ Box2 wr w.heap.size (.int .i64 n) (.slice A ps.length c)) (fun i _ _ => ps.length - (intOf i).toNat)
  case atStart => exact ⟨0, 0, some ⟨w.heap.size + 1, 0, none⟩, by omega, rfl, by simp, HE.out, hB0, bx1⟩
  case round =>
    clear bx1 hB0
    obtain ⟨k, cap, A1, hk, rfl, rfl, hI, hb, bx⟩ := hrel
    have hzb := hb.size
    obtain ⟨bs, d0, d1, -, -⟩ := id bx
    have hlk : ((ps.take k).map Pp.le).length = k := by simp; omega
    by_cases hlt : k < ps.length
    · obtain ⟨g, rfl, hg1, hg2, c0, c1, c2, c3, c4⟩ := hcell wr hb k hlt
      have hsn : Hid ((ps.take (k + 1)).map Pp.le = (ps.take k).map Pp.le ++ [ps[k].le]) := Lib.hid (by rw [List.take_succ_eq_append_getElem hlt, List.map_append]; rfl)
      have hI2 := hI.keep ((Below.refl wr.heap.size wr).alloc (Nat.le_refl _) (.cells #[.int .i64 ps[k].le] 3))
      have hown2 : (wr.alloc (.cells #[.int .i64 ps[k].le] 3)).ownsRow (w.heap.size + 1) 3 1 (.slice A1 k cap) k (((ps.take k).map Pp.le).map (Value.int .i64)) := by
        have := hI2.1
        rw [hlk] at this
        exact this
      have bx2 := bx.keep ((Below.refl wr.heap.size wr).alloc (Nat.le_refl _) (.cells #[.int .i64 ps[k].le] 3))
      have hb2 : Below w.heap.size w (wr.alloc (.cells #[.int .i64 ps[k].le] 3)) := by (repeat (first | (with_reducible assumption) | (with_reducible exact Below.refl _ _) | ((with_reducible refine Below.alloc ?_ ?hsz _); (case hsz => (first | omega | (simp; done) | (simp; omega) | (simp at *; omega)))) | ((with_reducible refine Below.setCell ?_ ?hsz _); (case hsz => (first | omega | (simp; done) | (simp; omega) | (simp at *; omega)))) | (with_reducible refine Below.drew ?_) | (with_reducible refine below_drewN ?_ _) | ((with_reducible refine Below.trans ?_ (Below.mono (by with_reducible assumption) ?hsz)); (case hsz => (first | omega | (simp; done) | (simp; omega) | (simp at *; omega))))))
      generalize ps[k].le = le at *
      clear c0 c1 c3 c4
      go_wp2_with (first
        | (at_builtin
           go_must (refine wpList_append_src rfl _ _ 25 rfl (w.heap.size + 1) 3 i0 _ 1 8 Try.underlying25 hi0 hz0 hz1 hz2 rfl (by omega) _ _ k 1 _ _ (by rfl) rfl hown2 (lit_src (heap_alloc_new _ _) rfl (by simp [Value.oneCell'])) (by unfold maxLen; omega) (by omega) (by simp; omega) ?_)
           intro r7 w7 hown7 hgr7 hat7))
      have hr7 : Ints w7 (w.heap.size + 1) r7 ((ps.take k).map Pp.le ++ [le]) := ints_snoc (xs := (ps.take k).map Pp.le) (by rw [hlk]; exact hown7) (by rw [hlk]; unfold small; omega)
      have hb7 : Below w.heap.size w w7 := Below.grown hb2 hgr7 hb2.size (fun q hq => by have := (hown2.lt q hq).1; omega)
      have bx7 := bx2.grown hgr7 (by intro h; have := (hown2.lt w.heap.size h.symm).1; omega)
      obtain ⟨A7, c7, hv, -⟩ := hr7.form
      have hl7' : ((ps.take k).map Pp.le ++ [le]).length = k + 1 := by rw [List.length_append, hlk]; rfl
      rw [hl7'] at hv
      refine ⟨⟨k + 1, c7, A7, by omega, by go_num, hv, by rw [hsn.out, ← hv]; exact hr7, hb7, bx7⟩, by simp [intOf]; omega⟩
    · have hkk : k = ps.length := by omega
      subst hkk
      rw [List.take_length] at hI
      go_wp2
      go_ret
      exact ⟨_, rfl, hI.mono (by omega), hb⟩

def agN : Value → Nat
  | .bool true => 1
  | _ => 0

theorem Ints.uniq5 {w : World} {b : Nat} {v : Value} {xs ys : List Int} (h : Ints w b v xs) (h' : Ints w b v ys) : xs = ys := Ints.uniq' h h'

set_option maxHeartbeats 8000000 in
set_option maxRecDepth 20000 in
theorem specCirc_any (n : Int) (v : Value) (ps : List Pp) (b : Nat) (w : World) (hp : Pipes w b v ps) :
    Calls Try.prog 22 #[.agg #[.int .i64 n, v]] w fun e w' => ∃ r, e = .returned (.tuple #[r, .bool (circB n ps)]) ∧ Ints w' w.heap.size r (circL n ps) ∧ Below w.heap.size w w' := by
  have hp0 := hp
  obtain ⟨A, c, rfl, hcp1, hcp2, -, -⟩ := hp.form
  unfold maxLen at hcp2
  have bx0 := Box2.new w (.int .i64 n) (.slice A ps.length c) 32
  go_enter Try.func22, Try.ntmps22
  go_wp2_with fail
  with_reducible refine (specNetOk_any n _ ps b _ (hp0.keep (by (repeat (first | (with_reducible assumption) | (with_reducible exact Below.refl _ _) | ((with_reducible refine Below.alloc ?_ ?hsz _); (case hsz => (first | omega | (simp; done) | (simp; omega) | (simp at *; omega)))) | ((with_reducible refine Below.setCell ?_ ?hsz _); (case hsz => (first | omega | (simp; done) | (simp; omega) | (simp at *; omega)))) | (with_reducible refine Below.drew ?_) | (with_reducible refine below_drewN ?_ _) | ((with_reducible refine Below.trans ?_ (Below.mono (by with_reducible assumption) ?hsz)); (case hsz => (first | omega | (simp; done) | (simp; omega) | (simp at *; omega))))))))).mono ?_
  rintro e w1 ⟨rfl, hb1⟩
  have bx1 := bx0.keep hb1
  have hB1 : Below w.heap.size w w1 := by (repeat (first | (with_reducible assumption) | (with_reducible exact Below.refl _ _) | ((with_reducible refine Below.alloc ?_ ?hsz _); (case hsz => (first | omega | (simp; done) | (simp; omega) | (simp at *; omega)))) | ((with_reducible refine Below.setCell ?_ ?hsz _); (case hsz => (first | omega | (simp; done) | (simp; omega) | (simp at *; omega)))) | (with_reducible refine Below.drew ?_) | (with_reducible refine below_drewN ?_ _) | ((with_reducible refine Below.trans ?_ (Below.mono (by with_reducible assumption) ?hsz)); (case hsz => (first | omega | (simp; done) | (simp; omega) | (simp at *; omega))))))
  have hz1 := hB1.size
  clear bx0 hb1
  obtain ⟨bs, d0, d1, -, -⟩ := id bx1
  by_cases hn : netOkB n ps = true
  · rw [hn]
    obtain ⟨n2, n5, hl7, -⟩ := netOk_parts hn
    have HN := Lib.hid hn
    have Ho := Lib.hid (circO_yes hn)
    have Hl := Lib.hid (least_holds hn)
    obtain ⟨N, rfl⟩ := Int.eq_ofNat_of_zero_le (show 0 ≤ n by omega)
    clear hn
    go_wp2_with fail
    refine (l5Start_any N _ ps b _ (hp0.keep hB1) hl7).mono ?_
    rintro e w2 ⟨r2, rfl, hr2, hb2⟩
    have bx2 := bx1.keep hb2
    have hB2 := hB1.trans (hb2.mono hz1)
    have hr2' := hr2.mono hz1
    clear bx1 hb2 d0 d1 bs hr2
    obtain ⟨bs, d0, d1, -, -⟩ := id bx2
    go_wp2_with fail
    go_loopw [4, 5] (fun t4 t5 wr => ∃ (ys : List Int) (ag : Bool), t5 = .bool ag ∧ Ints wr w.heap.size t4 ys ∧ holdsB N ps ys = true ∧ circF N ps ys = circF N ps (leastL ps) ∧ (ag = false → ∀ f : Nat, f < N → 0 < exc (f : Int) ps ys → ∀ v : Nat, v < N → exc (v : Int) ps ys < 0 → wayB N ps ys f v = false) ∧ Below w.heap.size w wr ∧ Box2 wr w.heap.size (.int .i64 N) (.slice A ps.length c))
      (fun t4 t5 wr => 2 * (posE N ps (Classical.epsilon fun ys => Ints wr w.heap.size t4 ys)).toNat + agN t5)
    case atStart => exact ⟨leastL ps, true, rfl, hr2', Hl.out, rfl, (fun h => by cases h), hB2, bx2⟩
    case round =>
      clear bx2 d0 d1 bs hr2' hB2
      obtain ⟨ys, ag, rfl, hI, hh, hc, hend, hB, bx⟩ := hrel
      obtain ⟨bs, d0, d1, -, -⟩ := id bx
      have hzb := hB.size
      obtain ⟨A4, c4, rfl, -, -, -, -⟩ := hI.form
      obtain ⟨m4, hm4⟩ : ∃ m, ys.length = m := ⟨_, rfl⟩
      have HI := Lib.hid hI
      rw [hm4] at HI ⊢
      have HH := Lib.hid (And.intro hh (And.intro hc hend))
      have HE1 : Hid ((Classical.epsilon fun zs => Ints wr w.heap.size (.slice A4 m4 c4) zs) = ys) := Lib.hid (Ints.uniq5 (Classical.epsilon_spec (p := fun zs => Ints wr w.heap.size (.slice A4 m4 c4) zs) ⟨ys, HI.out⟩) HI.out)
      clear hI hm4 hc hend
      have hfl := (holds_parts hh).1
      have Hbd := Lib.hid (fun v : Int => exc_bd7 hfl v)
      clear hh hfl
      cases ag with
      | true =>
        obtain ⟨wo, hwo⟩ : ∃ wo, wr = wo := ⟨_, rfl⟩
        rw [hwo] at HI HE1 hB bx d0 d1 bs hzb ⊢
        clear hwo
        go_wp2_with fail
        go_loopw [4, 5, 6] (fun t4 t5 t6 wr => ∃ (f : Nat) (ag : Bool), f ≤ N ∧ t6 = .int .i64 f ∧ t5 = .bool ag ∧ Below wo.heap.size wo wr ∧ (ag = false → t4 = .slice A4 m4 c4 ∧ ∀ f' : Nat, f' < f → 0 < exc (f' : Int) ps ys → ∀ v : Nat, v < N → exc (v : Int) ps ys < 0 → wayB N ps ys f' v = false) ∧
          (ag = true → ∃ zs, Ints wr w.heap.size t4 zs ∧ holdsB N ps zs = true ∧ circF N ps zs = circF N ps ys ∧ posE N ps zs < posE N ps ys)) (fun _ t5 t6 _ => 2 * (N - (intOf t6).toNat) + (1 - agN t5))
        case atStart => exact ⟨0, false, by omega, rfl, rfl, Below.refl _ _, (fun _ => ⟨rfl, fun f' hf' => by omega⟩), (fun h => by cases h)⟩
        case round =>
          clear d0 d1 bs
          obtain ⟨f, ag, hf, rfl, rfl, hb, h1, h2⟩ := hrel
          have bxf := bx.keep hb
          obtain ⟨bs, d0, d1, -, -⟩ := id bxf
          have hBf := hB.trans (hb.mono hzb)
          have hzf := hb.size
          cases ag with
          | true =>
            obtain ⟨zs, hJ, hz1', hz2', hz3'⟩ := h2 rfl
            obtain ⟨A5, c5, rfl, -, -, -, -⟩ := hJ.form
            obtain ⟨m5, hm5⟩ : ∃ m, zs.length = m := ⟨_, rfl⟩
            rw [hm5] at hJ ⊢
            have HZ := Lib.hid (And.intro hJ (And.intro hz1' (And.intro (hz2'.trans HH.out.2.1) hz3')))
            have HE2 : Hid ((Classical.epsilon fun q => Ints wr w.heap.size (.slice A5 m5 c5) q) = zs) := Lib.hid (Ints.uniq5 (Classical.epsilon_spec (p := fun q => Ints wr w.heap.size (.slice A5 m5 c5) q) ⟨zs, hJ⟩) hJ)
            clear hJ hz1' hz2' hz3' h1 h2 hm5
            by_cases hfN : f < N
            · go_wp2
              go_roundw
              case rel => exact ⟨zs, true, rfl, HZ.out.1, HZ.out.2.1, HZ.out.2.2.1, (fun h => by cases h), hBf, bxf⟩
              case measure =>
                rw [HE1.out, HE2.out]
                have := HZ.out.2.2.2
                have := posE_nn N ps zs
                simp only [agN]
                omega
            · go_wp2
              go_roundw
              case rel => exact ⟨zs, true, rfl, HZ.out.1, HZ.out.2.1, HZ.out.2.2.1, (fun h => by cases h), hBf, bxf⟩
              case measure =>
                rw [HE1.out, HE2.out]
                have := HZ.out.2.2.2
                have := posE_nn N ps zs
                simp only [agN]
                omega
          | false =>
            obtain ⟨rfl, hstk⟩ := h1 rfl
            have Hstk := Lib.hid hstk
            have HIf := Lib.hid (HI.out.keep hb)
            clear h1 h2 hstk
            by_cases hfN : f < N
            · obtain ⟨F, hF⟩ : ∃ F, exc (f : Int) ps ys = F := ⟨_, rfl⟩
              have HF := Lib.hid hF
              have hFb := Hbd.out (f : Int)
              rw [hF] at hFb
              obtain ⟨hF1, hF2⟩ := hFb
              clear hF
              go_wp2_with fail
              with_reducible refine (specExcess_any f N _ _ ps ys b _ _ (hp0.keep hBf) HIf.out (holds_parts HH.out.1).1).mono ?_
              rintro e w3 ⟨rfl, hb3⟩
              rw [HF.out]
              have hb03 := hb.trans (hb3.mono hzf)
              have bx3 := bx.keep hb03
              have hz3 := hb03.size
              clear d0 d1 bs bxf hBf
              obtain ⟨bs, d0, d1, -, -⟩ := id bx3
              go_wp2_with fail
              go_loopw [4, 5, 8] (fun t4 t5 t8 wr => ∃ (t : Nat) (ag : Bool), t ≤ N ∧ t8 = .int .i64 t ∧ t5 = .bool ag ∧ Below wo.heap.size wo wr ∧ (ag = false → t4 = .slice A4 m4 c4 ∧ (0 < F → ∀ v : Nat, v < t → exc (v : Int) ps ys < 0 → wayB N ps ys f v = false)) ∧
                (ag = true → ∃ zs, Ints wr w.heap.size t4 zs ∧ holdsB N ps zs = true ∧ circF N ps zs = circF N ps ys ∧ posE N ps zs < posE N ps ys)) (fun _ t5 t8 _ => 2 * (N - (intOf t8).toNat) + (1 - agN t5))
              case atStart => exact ⟨0, false, by omega, rfl, rfl, hb03, (fun _ => ⟨rfl, fun _ v hv => by omega⟩), (fun h => by cases h)⟩
              case round =>
                clear d0 d1 bs bx3 hb03 hb3 hz3
                obtain ⟨t, ag, ht, rfl, rfl, hbt, h1, h2⟩ := hrel
                have bxt := bx.keep hbt
                obtain ⟨bs, d0, d1, -, -⟩ := id bxt
                have hBt := hB.trans (hbt.mono hzb)
                have hzt := hbt.size
                cases ag with
                | true =>
                  obtain ⟨zs, hJ, hz1', hz2', hz3'⟩ := h2 rfl
                  obtain ⟨A5, c5, rfl, -, -, -, -⟩ := hJ.form
                  obtain ⟨m5, hm5⟩ : ∃ m, zs.length = m := ⟨_, rfl⟩
                  rw [hm5] at hJ ⊢
                  have HZ := Lib.hid (And.intro hJ (And.intro hz1' (And.intro hz2' hz3')))
                  clear hJ hz1' hz2' hz3' h1 h2 hm5
                  by_cases htN : t < N <;> by_cases hFp : 0 < F
                  all_goals
                    go_wp2
                    go_roundw
                    case rel => exact ⟨f + 1, true, by omega, by go_num, rfl, hbt, (fun h => by cases h), (fun _ => ⟨zs, HZ.out⟩)⟩
                    case measure => simp [intOf, agN]; omega
                | false =>
                  obtain ⟨rfl, hno⟩ := h1 rfl
                  have Hno := Lib.hid hno
                  have HIt := Lib.hid (HI.out.keep hbt)
                  clear h1 h2 hno
                  have Hex : Hid ((¬ 0 < F ∨ t = N) → ∀ f' : Nat, f' < f + 1 → 0 < exc (f' : Int) ps ys → ∀ v : Nat, v < N → exc (v : Int) ps ys < 0 → wayB N ps ys f' v = false) := Lib.hid fun hor f' hf' hp' v hv hx' => by
                    by_cases hff : f' = f
                    · subst hff
                      rw [HF.out] at hp'
                      rcases hor with h | h
                      · exact absurd hp' h
                      · exact Hno.out hp' v (by omega) hx'
                    · exact Hstk.out f' (by omega) hp' v hv hx'
                  by_cases htN : t < N
                  · by_cases hFp : 0 < F
                    · obtain ⟨Y, hY⟩ : ∃ Y, exc (t : Int) ps ys = -Y := ⟨-exc (t : Int) ps ys, by omega⟩
                      have HX := Lib.hid hY
                      have hYb := Hbd.out (t : Int)
                      rw [hY] at hYb
                      obtain ⟨hY1, hY2⟩ := hYb
                      clear hY
                      go_wp2_with fail
                      with_reducible refine (specExcess_any t N _ _ ps ys b _ _ (hp0.keep hBt) HIt.out (holds_parts HH.out.1).1).mono ?_
                      rintro e w5 ⟨rfl, hb5⟩
                      rw [HX.out]
                      have hbq := hbt.trans (hb5.mono hzt)
                      have hzq := hbq.size
                      have bxq := bx.keep hbq
                      have hBq := hB.trans (hbq.mono hzb)
                      have HIq := Lib.hid (HI.out.keep hbq)
                      clear d0 d1 bs bxt hBt hb5 hbt HIt hzt
                      obtain ⟨bs, d0, d1, -, -⟩ := id bxq
                      by_cases hYp : 0 < Y
                      · have hYd : decide (Y ≤ 0) = false := decide_eq_false (by omega)
                        go_wp2_with fail
                        with_reducible refine (specWay_any N f t _ _ ps ys b _ _ (hp0.keep hBq) HIq.out HH.out.1 (by omega) (by omega) (by omega) (by omega)).mono ?_
                        rintro e w7 ⟨r7, rfl, hr7, hb7⟩
                        have hbq' := hbq.trans (hb7.mono hzq)
                        have hzq' := hbq'.size
                        have bx7 := bx.keep hbq'
                        have hBq' := hB.trans (hbq'.mono hzb)
                        have HIq' := Lib.hid (HI.out.keep hbq')
                        clear d0 d1 bs bxq hb7 hBq HIq
                        obtain ⟨bs, d0, d1, -, -⟩ := id bx7
                        have hft : f ≠ t := fun e => by
                          have h9 := HF.out
                          rw [e, HX.out] at h9
                          omega
                        have he : endsB N ps f t = true := by
                          simp [endsB, HN.out, withinB]
                          omega
                        obtain ⟨e1, e2⟩ := rest_way HH.out.1 he
                        rw [e1] at hr7 e2
                        obtain ⟨A7, c7, rfl, -, -, -, -⟩ := hr7.form
                        obtain ⟨m7, hm7⟩ : ∃ m, ((wayR N ps ys f t).map fun s : Nat => (s : Int)).length = m := ⟨_, rfl⟩
                        have hm7' : (wayR N ps ys f t).length = m7 := by rw [← hm7]; simp
                        rw [hm7'] at e2
                        rw [hm7] at hr7 ⊢
                        have hrw := hr7
                        clear hm7 hm7' e1 he hft hr7
                        have hbq := hbq'
                        have hzq := hzq'
                        have hBq := hBq'
                        have HIq := HIq'
                        clear hbq' hzq' hBq' HIq'
                        by_cases hw : wayB N ps ys f t = true
                        · have hm0 : decide (0 < m7) = true := by rw [e2, hw]
                          obtain ⟨q1, q2, q3, q4, q5, -⟩ := spush_facts hw
                          have HP1 : Hid (ys.length = ps.length ∧ 0 < ys.length ∧ (∀ x ∈ ys, 0 ≤ x ∧ x ≤ 40) ∧ (∀ p ∈ ps, 0 ≤ p.le ∧ p.le ≤ p.mo ∧ p.mo ≤ 4) ∧ ∀ s ∈ wayR N ps ys f t, s < 2 * ps.length) := Lib.hid ⟨q2, q3, q4, q5, (spush_facts hw).2.2.2.2.2.1⟩
                          have hX0 : exc (t : Int) ps ys < 0 := by rw [HX.out]; omega
                          have hF0 : 0 < exc (f : Int) ps ys := by rw [HF.out]; omega
                          have HP2 := Lib.hid (And.intro (pushC_ok (n := (N : Int)) (f := f) (t := t) (by omega) hF0 hX0 hw) (And.intro (pushC_facts (n := (N : Int)) (f := f) (t := t) (by omega) hF0 hX0 hw)
                            (circF_push (n := (N : Int)) (f := f) (t := t) HH.out.1 (by omega) hF0 (by omega) hX0 hw (fun f' hf' hp' v hv hx' => Hstk.out f' hf' hp' v (by omega) hx') (fun v hv hx' => Hno.out hFp v hv hx'))))
                          clear q1 q2 q3 q4 q5 e2 hX0 hF0
                          by_cases hm : F ≤ Y
                          · have ham : roomL ps ys F (wayR N ps ys f t) = amtC N ps ys f t := by
                              have h9 := roomAmt (n := (N : Int)) (f := (f : Int)) (t := (t : Int)) hw (by rw [HF.out]; omega)
                              rw [HF.out, HX.out, Int.neg_neg, Int.min_eq_left hm] at h9
                              exact h9
                            have Ham := Lib.hid (And.intro ham HP2.out)
                            clear ham hw
                            go_wp2_with fail
                            with_reducible refine (l5Pushed_any N F _ _ _ (wayR N ps ys f t) ps ys b _ _ _ (hp0.keep hBq) HIq.out hrw hl7 HP1.out.1 HP1.out.2.1 HP1.out.2.2.1 HP1.out.2.2.2.1 HP1.out.2.2.2.2 (amtC N ps ys f t) Ham.out.1 Ham.out.2.2.1.1 Ham.out.2.2.1.2).mono ?_
                            rintro e w6 ⟨r6, rfl, hr6, hb6⟩
                            have hb06 := hbq.trans (hb6.mono hzq)
                            have hr66 : Ints w6 w.heap.size r6 (pushC N ps ys f t) := hr6.mono (by omega)
                            have hprop := Ham.out.2
                            have HPP := Lib.hid (And.intro hr66 hprop)
                            clear hr6 hr66 hprop
                            go_wp2
                            go_roundw
                            case rel => exact ⟨t + 1, true, by omega, by go_num, rfl, hb06, (fun h => by cases h), (fun _ => ⟨pushC N ps ys f t, HPP.out.1, HPP.out.2.1.2.2.1, HPP.out.2.2.2, HPP.out.2.1.2.2.2.1⟩)⟩
                            case measure => simp [intOf, agN]; omega
                          · have ham : roomL ps ys Y (wayR N ps ys f t) = amtC N ps ys f t := by
                              have h9 := roomAmt (n := (N : Int)) (f := (f : Int)) (t := (t : Int)) hw (by rw [HF.out]; omega)
                              rw [HF.out, HX.out, Int.neg_neg, Int.min_eq_right (by omega)] at h9
                              exact h9
                            have Ham := Lib.hid (And.intro ham HP2.out)
                            clear ham hw
                            go_wp2_with fail
                            with_reducible refine (l5Pushed_any N Y _ _ _ (wayR N ps ys f t) ps ys b _ _ _ (hp0.keep hBq) HIq.out hrw hl7 HP1.out.1 HP1.out.2.1 HP1.out.2.2.1 HP1.out.2.2.2.1 HP1.out.2.2.2.2 (amtC N ps ys f t) Ham.out.1 Ham.out.2.2.1.1 Ham.out.2.2.1.2).mono ?_
                            rintro e w6 ⟨r6, rfl, hr6, hb6⟩
                            have hb06 := hbq.trans (hb6.mono hzq)
                            have hr66 : Ints w6 w.heap.size r6 (pushC N ps ys f t) := hr6.mono (by omega)
                            have hprop := Ham.out.2
                            have HPP := Lib.hid (And.intro hr66 hprop)
                            clear hr6 hr66 hprop
                            go_wp2
                            go_roundw
                            case rel => exact ⟨t + 1, true, by omega, by go_num, rfl, hb06, (fun h => by cases h), (fun _ => ⟨pushC N ps ys f t, HPP.out.1, HPP.out.2.1.2.2.1, HPP.out.2.2.2, HPP.out.2.1.2.2.2.1⟩)⟩
                            case measure => simp [intOf, agN]; omega
                        · have hw' : wayB N ps ys f t = false := by simpa using hw
                          have hm0 : decide (0 < m7) = false := by rw [e2, hw']
                          have Hw := Lib.hid hw'
                          clear hw hw' e2
                          go_wp2
                          go_roundw
                          case rel => exact ⟨t + 1, false, by omega, by go_num, rfl, hbq, (fun _ => ⟨rfl, fun hFp' v hv hx' => by
                            by_cases hvt : v = t
                            · rw [hvt]; exact Hw.out
                            · exact Hno.out hFp' v (by omega) hx'⟩), (fun h => by cases h)⟩
                          case measure => simp [intOf, agN]; omega
                      · have hYd : decide (Y ≤ 0) = true := decide_eq_true (by omega)
                        go_wp2
                        go_roundw
                        case rel => exact ⟨t + 1, false, by omega, by go_num, rfl, hbq, (fun _ => ⟨rfl, fun hFp' v hv hx' => by
                          by_cases hvt : v = t
                          · rw [hvt, HX.out] at hx'; omega
                          · exact Hno.out hFp' v (by omega) hx'⟩), (fun h => by cases h)⟩
                        case measure => simp [intOf, agN]; omega
                    · go_wp2
                      go_roundw
                      case rel => exact ⟨f + 1, false, by omega, by go_num, rfl, hbt, (fun _ => ⟨rfl, Hex.out (.inl hFp)⟩), (fun h => by cases h)⟩
                      case measure => simp [intOf, agN]; omega
                  · have htN' : t = N := by omega
                    have Hex2 := Lib.hid (Hex.out (.inr htN'))
                    go_wp2
                    go_roundw
                    case rel => exact ⟨f + 1, false, by omega, by go_num, rfl, hbt, (fun _ => ⟨rfl, Hex2.out⟩), (fun h => by cases h)⟩
                    case measure => simp [intOf, agN]; omega
            · have hfN' : f = N := by omega
              go_wp2
              go_roundw
              case rel => exact ⟨ys, false, rfl, HIf.out, HH.out.1, HH.out.2.1, (fun _ f' hf' => Hstk.out f' (by omega)), hBf, bxf⟩
              case measure =>
                rw [HE1.out]
                have HE3 : (Classical.epsilon fun zs => Ints wr w.heap.size (.slice A4 m4 c4) zs) = ys := Ints.uniq5 (Classical.epsilon_spec (p := fun zs => Ints wr w.heap.size (.slice A4 m4 c4) zs) ⟨ys, HIf.out⟩) HIf.out
                rw [HE3]
                simp only [agN]
                omega
      | false =>
        have Hend := Lib.hid (circF_end HH.out.1 (by rw [Int.toNat_natCast]; exact HH.out.2.2 rfl))
        go_wp2_with fail
        with_reducible refine (specBalancedOk_any N _ _ ps ys b _ _ (hp0.keep hB) HI.out).mono ?_
        rintro e w3 ⟨rfl, hb3⟩
        have hB3 := hB.trans (hb3.mono hzb)
        have hz3 := hB3.size
        by_cases hbal : balB N ps ys = true
        · have Hr : Hid (circB N ps = true ∧ circL N ps = ys) := Lib.hid (circ_some (by rw [Ho.out, ← HH.out.2.1, Hend.out, if_pos hbal]))
          rw [hbal]
          go_wp2
          go_ret2
          exact ⟨_, ret_vb Hr.out.1.symm, by rw [Hr.out.2]; exact HI.out.keep hb3, hB3⟩
        · have hbal' : balB N ps ys = false := by simpa using hbal
          have Hr : Hid (circB N ps = false ∧ circL N ps = []) := Lib.hid (circ_none (by rw [Ho.out, ← HH.out.2.1, Hend.out, if_neg hbal]))
          rw [hbal']
          go_wp2
          go_ret2
          exact ⟨_, ret_vb Hr.out.1.symm, by rw [Hr.out.2]; exact ints_empty5 _ hz3 rfl, by (repeat (first | (with_reducible assumption) | (with_reducible exact Below.refl _ _) | ((with_reducible refine Below.alloc ?_ ?hsz _); (case hsz => (first | omega | (simp; done) | (simp; omega) | (simp at *; omega)))) | ((with_reducible refine Below.setCell ?_ ?hsz _); (case hsz => (first | omega | (simp; done) | (simp; omega) | (simp at *; omega)))) | (with_reducible refine Below.drew ?_) | (with_reducible refine below_drewN ?_ _) | ((with_reducible refine Below.trans ?_ (Below.mono (by with_reducible assumption) ?hsz)); (case hsz => (first | omega | (simp; done) | (simp; omega) | (simp at *; omega))))))⟩
  · have hn' : netOkB n ps = false := by simpa using hn
    rw [hn']
    have Hw := Lib.hid (circ_none (circO_no hn'))
    clear hn hn'
    go_wp2
    go_ret2
    exact ⟨_, ret_vb Hw.out.1.symm, by rw [Hw.out.2]; exact ints_empty5 _ hz1 rfl, by (repeat (first | (with_reducible assumption) | (with_reducible exact Below.refl _ _) | ((with_reducible refine Below.alloc ?_ ?hsz _); (case hsz => (first | omega | (simp; done) | (simp; omega) | (simp at *; omega)))) | ((with_reducible refine Below.setCell ?_ ?hsz _); (case hsz => (first | omega | (simp; done) | (simp; omega) | (simp at *; omega)))) | (with_reducible refine Below.drew ?_) | (with_reducible refine below_drewN ?_ _) | ((with_reducible refine Below.trans ?_ (Below.mono (by with_reducible assumption) ?hsz)); (case hsz => (first | omega | (simp; done) | (simp; omega) | (simp at *; omega))))))⟩

end Go.Proofs.Ytangnecgnclobaa
