/- FnThreadsApart: for every code the law holds: the program's threads apart are the model's; each is a thread, no pipe is in two of them, nor one that holds nothing; and they are as many as the fewest blocks. No condition. -/
import Derived.Test.YtmgpekdhcghabaaGreatGR12
import Derived.Test.YtmgpekdhcghabaaGreatGR14
import Derived.Test.YtmgpekdhcghabaaGreatGR19
import Derived.Test.YtmgpekdhcghabaaGreatGR3
import Derived.Test.YtmgpekdhcghabaaGreatGR11
namespace Go.Proofs.YtmgpekdhcghabaaGreat.lawThreadsApart
open Go.ChangeShapes Go.WideShapes Go.ChangeAt Go.RowKit Go.Deep Go.Joins

theorem thr_all {n a b : Int} {ps : List Pp} (h : endsB n ps a b = true) : ∃ N : Nat, (apartR n ps a b).length = N ∧ (fewR n ps a b).length = N ∧ N ≤ 7 ∧ (apartR n ps a b).flatten.Nodup ∧
    ∀ T ∈ apartR n ps a b, threadB n ps T a b = true ∧ T.length ≤ 5 ∧ ∀ x ∈ T, ∃ (q : Nat) (hq : q < ps.length), x = (q : Int) ∧ 1 ≤ ps[q].mo := by
  have hok := (ends_parts h).1
  have hg := unit_great h
  have he := (great_parts hg).2
  have hu := unit_unitB hok
  have hs := few_side he
  have hl7 := (netOk_parts hok).2.2.1
  have e1 : apartR n ps a b = apartU n (ps.map unitP) a b := by rw [apartR, if_pos h]
  have e2 : fewR n ps a b = blkL (fewS n (ps.map unitP) a b) (ps.map unitP) := by rw [fewR, if_pos h]
  have h1 := apart_len hg hu
  have h2 := blk_len (s := fewS n (ps.map unitP) a b) hu
  obtain ⟨s0, s1, sp, se⟩ := (narrow_mem he).1 hs
  have hle := fewR_len n ps a b
  refine ⟨(fewR n ps a b).length, by rw [e1, e2]; omega, rfl, by omega, by rw [e1]; exact apart_nodup hg hu, fun T hT => ?_⟩
  rw [e1] at hT
  obtain ⟨ht, -⟩ := apart_mem hg hu hT
  have ht' := ht
  simp only [threadB, Bool.and_eq_true] at ht'
  obtain ⟨⟨⟨⟨-, hw⟩, -⟩, -⟩, -⟩ := ht'
  obtain ⟨-, -, h5, -, -⟩ := walk_parts hw
  refine ⟨by rw [← (unit_ends ps).thread hok (unit_net hok)]; exact ht, h5, fun x hx => ?_⟩
  obtain ⟨q, e, hq, hm, -⟩ := apart_holds hg hu hT x hx
  rw [List.length_map] at hq
  refine ⟨q, hq, e, ?_⟩
  rw [unit_getD ps hq, getD_el hq] at hm
  have : 0 < min ps[q].mo 1 := hm
  omega
theorem thr_none {n a b : Int} {ps : List Pp} (h : endsB n ps a b = false) : apartR n ps a b = [] := by simp [apartR, h]

set_option maxHeartbeats 1000000 in
set_option maxRecDepth 20000 in
theorem sameRd_any (v u : Value) (xs : List Int) (w : World) (hx : Reads w v xs) (hy : Reads w u xs) :
    Calls Tryz.prog 9 #[v, u] w fun e w' => e = .returned (.bool true) ∧ Below w.heap.size w w' := by
  obtain ⟨A, c, rfl, hc1, hc2, hs, hcell⟩ := hx.form
  obtain ⟨A', c', rfl, hc1', hc2', hs', hcell'⟩ := hy.form
  unfold maxLen at hc2 hc2'
  obtain ⟨L, hL⟩ : ∃ L, xs.length = L := ⟨_, rfl⟩
  have HL := Lib.hid hL
  rw [hL] at hc1 hc1' hs ⊢
  clear hL hs'
  have h0 : ((L : Int) != (L : Int)) = false := by simp
  go_enter Tryz.func9, Tryz.ntmps9
  go_wp2
  go_loopw [5] (fun i wr => ∃ k : Nat, k ≤ L ∧ i = .int .i64 k ∧ Below w.heap.size w wr) (fun i _ => L - (intOf i).toNat)
  case atStart => exact ⟨0, by omega, rfl, by (repeat (first | (with_reducible assumption) | (with_reducible exact Below.refl _ _) | ((with_reducible refine Below.alloc ?_ ?hsz _); (case hsz => (first | omega | (simp; done) | (simp; omega) | (simp at *; omega)))) | ((with_reducible refine Below.setCell ?_ ?hsz _); (case hsz => (first | omega | (simp; done) | (simp; omega) | (simp at *; omega)))) | (with_reducible refine Below.drew ?_) | (with_reducible refine below_drewN ?_ _) | ((with_reducible refine Below.trans ?_ (Below.mono (by with_reducible assumption) ?hsz)); (case hsz => (first | omega | (simp; done) | (simp; omega) | (simp at *; omega))))))⟩
  case round =>
    obtain ⟨k, hk, rfl, hb⟩ := hrel
    have hzb := hb.size
    by_cases hlt : k < L
    · have hlx : k < xs.length := by have := HL.out; omega
      obtain ⟨g, o, rfl, hg2, c0⟩ := hcell wr hb k hlx
      obtain ⟨g', o', rfl, hg2', d0⟩ := hcell' wr hb k hlx
      have hgw : g < wr.heap.size := by omega
      have hgw' : g' < wr.heap.size := by omega
      generalize xs[k] = x at *
      have hxx : (x != x) = false := by simp
      go_wp2
      go_quiet (fail)
      go_wp2
      go_roundw
      case rel => exact ⟨k + 1, by omega, by go_num, by (repeat (first | (with_reducible assumption) | (with_reducible exact Below.refl _ _) | ((with_reducible refine Below.alloc ?_ ?hsz _); (case hsz => (first | omega | (simp; done) | (simp; omega) | (simp at *; omega)))) | ((with_reducible refine Below.setCell ?_ ?hsz _); (case hsz => (first | omega | (simp; done) | (simp; omega) | (simp at *; omega)))) | (with_reducible refine Below.drew ?_) | (with_reducible refine below_drewN ?_ _) | ((with_reducible refine Below.trans ?_ (Below.mono (by with_reducible assumption) ?hsz)); (case hsz => (first | omega | (simp; done) | (simp; omega) | (simp at *; omega))))))⟩
      case measure => simp [intOf]; omega
    · go_wp2
      go_ret
      exact ⟨rfl, by (repeat (first | (with_reducible assumption) | (with_reducible exact Below.refl _ _) | ((with_reducible refine Below.alloc ?_ ?hsz _); (case hsz => (first | omega | (simp; done) | (simp; omega) | (simp at *; omega)))) | ((with_reducible refine Below.setCell ?_ ?hsz _); (case hsz => (first | omega | (simp; done) | (simp; omega) | (simp at *; omega)))) | (with_reducible refine Below.drew ?_) | (with_reducible refine below_drewN ?_ _) | ((with_reducible refine Below.trans ?_ (Below.mono (by with_reducible assumption) ?hsz)); (case hsz => (first | omega | (simp; done) | (simp; omega) | (simp at *; omega))))))⟩

set_option maxRecDepth 20000 in
set_option maxHeartbeats 8000000 in
set_option maxRecDepth 20000 in
theorem walk (v : Value) (n : Nat) (w : World) (h : ArgBytes w v n) :
    Calls Tryz.prog 3 #[v] w fun e w' => e = .returned (.bool true) ∧ Below w.heap.size w w' := by
  obtain ⟨A, c, rfl, hc1, hc2, -⟩ := id h
  unfold maxLen at hc2
  by_cases hbig : 1048576 < n
  · go_enter Tryz.func3, Tryz.ntmps3
    go_wp2
    go_ret
    exact ⟨rfl, by (repeat (first | (with_reducible assumption) | (with_reducible exact Below.refl _ _) | ((with_reducible refine Below.alloc ?_ ?hsz _); (case hsz => (first | omega | (simp; done) | (simp; omega) | (simp at *; omega)))) | ((with_reducible refine Below.setCell ?_ ?hsz _); (case hsz => (first | omega | (simp; done) | (simp; omega) | (simp at *; omega)))) | (with_reducible refine Below.drew ?_) | (with_reducible refine below_drewN ?_ _) | ((with_reducible refine Below.trans ?_ (Below.mono (by with_reducible assumption) ?hsz)); (case hsz => (first | omega | (simp; done) | (simp; omega) | (simp at *; omega))))))⟩
  go_enter Tryz.func3, Tryz.ntmps3
  go_wp2_with fail
  with_reducible refine (drawThreadsApart_any _ n _ (h.keep (by (repeat (first | (with_reducible assumption) | (with_reducible exact Below.refl _ _) | ((with_reducible refine Below.alloc ?_ ?hsz _); (case hsz => (first | omega | (simp; done) | (simp; omega) | (simp at *; omega)))) | ((with_reducible refine Below.setCell ?_ ?hsz _); (case hsz => (first | omega | (simp; done) | (simp; omega) | (simp at *; omega)))) | (with_reducible refine Below.drew ?_) | (with_reducible refine below_drewN ?_ _) | ((with_reducible refine Below.trans ?_ (Below.mono (by with_reducible assumption) ?hsz)); (case hsz => (first | omega | (simp; done) | (simp; omega) | (simp at *; omega))))))))).mono ?_
  rintro e w1 ⟨z, ps, u, i, j, rfl, hp, hb1, hl8, hz1, hz6⟩
  have hBw1 : Below w.heap.size w w1 := by (repeat (first | (with_reducible assumption) | (with_reducible exact Below.refl _ _) | ((with_reducible refine Below.alloc ?_ ?hsz _); (case hsz => (first | omega | (simp; done) | (simp; omega) | (simp at *; omega)))) | ((with_reducible refine Below.setCell ?_ ?hsz _); (case hsz => (first | omega | (simp; done) | (simp; omega) | (simp at *; omega)))) | (with_reducible refine Below.drew ?_) | (with_reducible refine below_drewN ?_ _) | ((with_reducible refine Below.trans ?_ (Below.mono (by with_reducible assumption) ?hsz)); (case hsz => (first | omega | (simp; done) | (simp; omega) | (simp at *; omega))))))
  clear h hc1 hc2 hbig
  obtain ⟨A1, c1, rfl, hk1, hk2, hsm, -⟩ := hp.form
  unfold maxLen at hk2
  have bx1 : Box2 (w1.alloc (.cells #[.int .i64 z, .slice A1 ps.length c1] 25)) w1.heap.size (.int .i64 z) (.slice A1 ps.length c1) := Box2.new _ _ _ _
  have hB1 : Below w1.heap.size w1 (w1.alloc (.cells #[.int .i64 z, .slice A1 ps.length c1] 25)) := by (repeat (first | (with_reducible assumption) | (with_reducible exact Below.refl _ _) | ((with_reducible refine Below.alloc ?_ ?hsz _); (case hsz => (first | omega | (simp; done) | (simp; omega) | (simp at *; omega)))) | ((with_reducible refine Below.setCell ?_ ?hsz _); (case hsz => (first | omega | (simp; done) | (simp; omega) | (simp at *; omega)))) | (with_reducible refine Below.drew ?_) | (with_reducible refine below_drewN ?_ _) | ((with_reducible refine Below.trans ?_ (Below.mono (by with_reducible assumption) ?hsz)); (case hsz => (first | omega | (simp; done) | (simp; omega) | (simp at *; omega))))))
  obtain ⟨Ts, hTs⟩ : ∃ Ts, apartR z ps i j = Ts := ⟨_, rfl⟩
  have HTs := Lib.hid hTs
  go_wp2_with fail
  with_reducible refine (apart_any z i j _ ps _ _ (hp.keep hB1)).mono ?_
  rintro e w2 ⟨r2, rfl, hL2, hnn⟩
  have bx2 := (bx1).keep hnn
  have hB2 : Below w1.heap.size w1 w2 := by (repeat (first | (with_reducible assumption) | (with_reducible exact Below.refl _ _) | ((with_reducible refine Below.alloc ?_ ?hsz _); (case hsz => (first | omega | (simp; done) | (simp; omega) | (simp at *; omega)))) | ((with_reducible refine Below.setCell ?_ ?hsz _); (case hsz => (first | omega | (simp; done) | (simp; omega) | (simp at *; omega)))) | (with_reducible refine Below.drew ?_) | (with_reducible refine below_drewN ?_ _) | ((with_reducible refine Below.trans ?_ (Below.mono (by with_reducible assumption) ?hsz)); (case hsz => (first | omega | (simp; done) | (simp; omega) | (simp at *; omega))))))
  have hbl := hnn
  clear hnn
  (try clear d0 d1 g0 g1)
  obtain ⟨bs, d0, d1, g0, g1⟩ := id bx2
  rw [hTs] at hL2
  clear hbl
  obtain ⟨A2, k2, rfl, hla, hlb, hlc, -⟩ := hL2.form
  unfold maxLen at hlb
  go_wp2_with fail
  with_reducible refine (specApart_any z i j _ ps _ _ (hp.keep hB2)).mono ?_
  rintro e w3 ⟨r3, rfl, hL3, hnn⟩
  have bx3 := (bx2).keep hnn
  have hB3 : Below w1.heap.size w1 w3 := by (repeat (first | (with_reducible assumption) | (with_reducible exact Below.refl _ _) | ((with_reducible refine Below.alloc ?_ ?hsz _); (case hsz => (first | omega | (simp; done) | (simp; omega) | (simp at *; omega)))) | ((with_reducible refine Below.setCell ?_ ?hsz _); (case hsz => (first | omega | (simp; done) | (simp; omega) | (simp at *; omega)))) | (with_reducible refine Below.drew ?_) | (with_reducible refine below_drewN ?_ _) | ((with_reducible refine Below.trans ?_ (Below.mono (by with_reducible assumption) ?hsz)); (case hsz => (first | omega | (simp; done) | (simp; omega) | (simp at *; omega))))))
  have hbl := hnn
  clear hnn
  (try clear d0 d1 g0 g1)
  obtain ⟨bs, d0, d1, g0, g1⟩ := id bx3
  rw [hTs] at hL3
  have hL23 := hL2.keep hbl
  clear hbl hL2
  obtain ⟨A3, k3, rfl, hla', hlb', hlc', -⟩ := hL3.form
  unfold maxLen at hlb'
  obtain ⟨N, hN⟩ : ∃ N, Ts.length = N := ⟨_, rfl⟩
  rw [hN] at hla hlc hla' hlc' ⊢
  clear hTs
  have hnn : ((N : Int) != (N : Int)) = false := by simp
  by_cases he : endsB z ps i j = true
  · obtain ⟨N', e1, e2, hN7, e4, e5⟩ := thr_all he
    rw [HTs.out] at e1 e4 e5
    obtain rfl : N = N' := hN.symm.trans e1
    have HX := Lib.hid (And.intro e5 (And.intro e4 e2))
    have HXN := Lib.hid e1
    have HFB := Lib.hid (show fewB z ps i j = true from he)
    obtain ⟨A2', k2', hv2, -, -, -, hcell2⟩ := hL23.form
    injection hv2 with x1 x2 x3
    subst x1
    obtain ⟨A3', k3', hv3, -, -, -, hcell3⟩ := hL3.form
    injection hv3 with y1 y2 y3
    subst y1
    obtain ⟨i0, hi0, hz00, hz10, hz20⟩ := info_parts int_info
    have h03 := hB3.size
    clear e1 e2 e4 e5 he hN x2 x3 y2 y3 hL23 hL3
    go_wp2_with fail
    have hR0 : Row (w3.alloc (.cells #[] 3)) w3.heap.size w3.heap.size 0 0 [] := ⟨World.ownsRow_lit (e := 3) (base := w3.heap.size) (size := 1) w3 #[] 0 (Nat.le_refl _) (by simp [maxLen]) rfl, by simp [small]⟩
    go_loopw [9, 8] (fun a o wr => ∃ (k m g1 k1 : Nat) (U : List Int), k ≤ N ∧ a = .int .i64 k ∧ o = .slice (some ⟨g1, 0, none⟩) m k1 ∧ U = (Ts.take k).flatten ∧ m ≤ 5 * k ∧ Row wr w3.heap.size g1 m k1 U ∧ Below w3.heap.size w3 wr) (fun a _ _ => N - (intOf a).toNat)
    case atStart => exact ⟨0, 0, w3.heap.size, 0, [], by omega, rfl, rfl, by simp, by omega, hR0, by (repeat (first | (with_reducible assumption) | (with_reducible exact Below.refl _ _) | ((with_reducible refine Below.alloc ?_ ?hsz _); (case hsz => (first | omega | (simp; done) | (simp; omega) | (simp at *; omega)))) | ((with_reducible refine Below.setCell ?_ ?hsz _); (case hsz => (first | omega | (simp; done) | (simp; omega) | (simp at *; omega)))) | (with_reducible refine Below.drew ?_) | (with_reducible refine below_drewN ?_ _) | ((with_reducible refine Below.trans ?_ (Below.mono (by with_reducible assumption) ?hsz)); (case hsz => (first | omega | (simp; done) | (simp; omega) | (simp at *; omega))))))⟩
    case round =>
      clear hR0
      obtain ⟨k, m, g1, k1, U, hk, rfl, rfl, hU, hm5, hR, hb⟩ := hrel
      have HU := Lib.hid hU
      clear hU
      obtain ⟨wo, hwo⟩ : ∃ wo, wo = wr := ⟨_, rfl⟩
      subst hwo
      have hzr := hb.size
      have hBr : Below w1.heap.size w1 wo := hB3.trans (hb.mono (by omega))
      have bxr := bx3.keep hb
      clear d0 d1 g0 bs
      obtain ⟨bs, d0, d1, g0, g1'⟩ := id bxr
      by_cases hlt : k < N
      · have hkT : k < Ts.length := by have := HXN.out; omega
        obtain ⟨ga, va, hAa, -, hga, ca, hra⟩ := hcell2 w3 (Below.refl _ _) k hkT
        subst hAa
        obtain ⟨gb, vb, hAb, -, hgb, cb, hrb⟩ := hcell3 w3 (Below.refl _ _) k hkT
        subst hAb
        have car := (hb.cell (p := ⟨ga, k, none⟩) hga).trans ca
        have cbr := (hb.cell (p := ⟨gb, k, none⟩) hgb).trans cb
        have hrar := hra.keep hb
        have hrbr := hrb.keep hb
        have hrb3 := hrb
        have hgar : ga < wo.heap.size := by omega
        have hgbr : gb < wo.heap.size := by omega
        have hpr := hp.keep hBr
        obtain ⟨T, hT⟩ : ∃ T, Ts[k] = T := ⟨_, rfl⟩
        have HT := Lib.hid (show threadB z ps T i j = true ∧ T.length ≤ 5 ∧ ∀ x ∈ T, ∃ (q : Nat) (hq : q < ps.length), x = (q : Int) ∧ 1 ≤ ps[q].mo by
          rw [← hT]; exact HX.out.1 _ (List.getElem_mem hkT))
        have HFl := Lib.hid (show (Ts.take (k + 1)).flatten = (Ts.take k).flatten ++ T ∧ ((Ts.take k).flatten ++ T).Nodup by
          have h1 : (Ts.take (k + 1)).flatten = (Ts.take k).flatten ++ T := by
            rw [List.take_succ_eq_append_getElem hkT, List.flatten_append, hT]; simp
          refine ⟨h1, ?_⟩
          rw [← h1]
          refine HX.out.2.1.sublist ?_
          conv => rhs; rw [← List.take_append_drop (k + 1) Ts, List.flatten_append]
          exact List.sublist_append_left _ _)
        rw [hT] at hra hrb hrar hrbr hrb3
        obtain ⟨Ab, kb, rfl, hm1, hm2, hm3, hcellK⟩ := hrb3.form
        unfold maxLen at hm2
        obtain ⟨M, hM⟩ : ∃ M, T.length = M := ⟨_, rfl⟩
        have HM := Lib.hid hM
        have hM' := hM
        have hM5 : M ≤ 5 := by have := HT.out.2.1; omega
        rw [hM] at hm1 hm3 cbr hrbr
        clear hT hM ca hra hrb hrb3
        rw [hM'] at cb
        clear hM'
        have C1 : ∀ W, Below wo.heap.size wo W → Calls Tryz.prog 9 #[va, .slice Ab M kb] W fun e w' => e = .returned (.bool true) ∧ Below W.heap.size W w' := fun W hW => sameRd_any _ _ T W (hrar.keep hW) (hrbr.keep hW)
        have C2 : ∀ W, Below wo.heap.size wo W → Calls Tryz.prog 10 #[.agg #[.int .i64 z, .slice A1 ps.length c1], .slice Ab M kb, .int .i64 i, .int .i64 j] W fun e w' => e = .returned (.bool true) ∧ Below W.heap.size W w' := fun W hW => by
          have h := threadOk_rd z i j _ _ ps T _ W (hpr.keep hW) (hrbr.keep hW)
          rw [HT.out.1] at h
          exact h
        have HC1 := Lib.hid C1
        have HC2 := Lib.hid C2
        have hrlt := hR.lt
        have HR := Lib.hid hR
        clear C1 C2 hR
        go_wp2_with fail
        have hd0 := fun p : Bw wo => (bw_cell p bs).trans d0
        have hd1 := fun p : Bw wo => (bw_cell p bs).trans d1
        have hca := fun p : Bw wo => (bw_cell p hgar).trans car
        have hcb := fun p : Bw wo => (bw_cell p hgbr).trans cbr
        refine wp_region_bw (by kernel_rfl) (by kernel_rfl) ?_
        repeat (go_big_quiet_step ((first | (go_at_call 9; refine calls_bw (HC1.out _ (Bw.h _))) | (go_at_call 10; refine calls_bw (HC2.out _ (Bw.h _))))))
        refine wpQuiet_nil ?_
        rintro _ ⟨pw, rfl⟩
        have hb5 := pw.h
        obtain ⟨w5, hw5⟩ : ∃ wq, wq = pw.v := ⟨_, rfl⟩
        rw [← hw5] at hb5 ⊢
        have hz5 := hb5.size
        have hb35 : Below w3.heap.size w3 w5 := hb.trans (hb5.mono hzr)
        have hR5 := HR.out.keep hb5
        have cb5 := (hb5.cell (p := ⟨gb, k, none⟩) hgbr).trans cbr
        clear hd0 hd1 hca hcb hw5 HC1 HC2 car HR d0 d1 g0 g1' bs bxr hrar
        go_wp2_with fail
        go_loopw [10, 8] (fun a o wr => ∃ (q m2 g2 k2 : Nat), q ≤ M ∧ a = .int .i64 q ∧ o = .slice (some ⟨g2, 0, none⟩) m2 k2 ∧ m2 = m + q ∧ Row wr w3.heap.size g2 m2 k2 (U ++ T.take q) ∧ Below w3.heap.size w3 wr) (fun a _ _ => M - (intOf a).toNat)
        case atStart => exact ⟨0, m, g1, k1, by omega, rfl, rfl, rfl, by simpa using hR5, hb35⟩
        case round =>
          clear hR5
          obtain ⟨q, m2, g2, k2, hq, rfl, rfl, hmq, hR2, hb2⟩ := hrel
          have hm2b : m2 ≤ 5 * k + 5 := by omega
          have HMQ := Lib.hid hmq
          clear hmq
          have hz2 := hb2.size
          have bxi := bx3.keep hb2
          have cbi := (hb2.cell (p := ⟨gb, k, none⟩) hgb).trans cb
          have hgbi : gb < wr.heap.size := by omega
          by_cases hql : q < M
          · have hqT : q < T.length := by have := HM.out; omega
            obtain ⟨gk, ok, hAk, hgk, cx⟩ := hcellK wr hb2 q hqT
            subst hAk
            have hgki : gk < wr.heap.size := by omega
            obtain ⟨p, hp7, hxp, hmo1⟩ := HT.out.2.2 _ (List.getElem_mem hqT)
            have Hs := Lib.hid (show T.take (q + 1) = T.take q ++ [(p : Int)] by rw [List.take_succ_eq_append_getElem hqT, hxp])
            have hno : decide ((p : Int) ∈ U ++ T.take q) = false := by
              rw [decide_eq_false_iff_not]
              intro hm
              have h2 := HFl.out.2
              rw [← HU.out, ← List.take_append_drop q T, ← List.append_assoc] at h2
              have h3 := (List.nodup_append.1 h2).2.2 (p : Int) hm (p : Int) (by rw [List.drop_eq_getElem_cons hqT, hxp]; simp)
              exact h3 rfl
            rw [hxp] at cx
            have hpi := hp.keep (hB3.trans (hb2.mono (by omega)))
            obtain ⟨AP, cP, hvP, hpc1, hpc2, -, hcellP⟩ := hpi.form
            injection hvP with p1 p2 p3
            obtain ⟨gp, hAP, -, hgp, f0, f1, f2, f3, f4⟩ := hcellP wr (Below.refl _ _) p hp7
            rw [hAP] at p1
            subst p1
            subst p3
            unfold maxLen at hpc2
            have hmo : decide (ps[p].mo < 1) = false := decide_eq_false (by omega)
            obtain ⟨bs, d0, d1, g0, g1'⟩ := id bxi
            have C3 : ∀ W, Below wr.heap.size wr W → Calls Tryz.prog 11 #[.slice (some ⟨g2, 0, none⟩) m2 k2, .int .i64 (p : Int)] W fun e w' => e = .returned (.bool false) ∧ Below W.heap.size W w' := fun W hW => by
              have h := hasInt_any (.slice (some ⟨g2, 0, none⟩) m2 k2) (U ++ T.take q) (p : Int) _ W (hR2.ints.keep hW)
              rw [hno] at h
              exact h
            have HC3 := Lib.hid C3
            clear C3
            have HR2 := Lib.hid hR2
            have hrl2 := hR2.lt
            clear hR2 hno hcellP hAP p2 hxp f0 f1 f2 f4 hpi
            go_wp2_with fail
            have hd1 := fun p : Bw wr => (bw_cell p bs).trans d1
            have hcb := fun p : Bw wr => (bw_cell p hgbi).trans cbi
            have hcx := fun p : Bw wr => (bw_cell p hgki).trans cx
            have hcm := fun p : Bw wr => (bw_cell p hgp).trans f3
            refine wp_region_bw (by kernel_rfl) (by kernel_rfl) ?_
            repeat (go_big_quiet_step ((go_at_call 11; refine calls_bw (HC3.out _ (Bw.h _)))))
            refine wpQuiet_nil ?_
            rintro _ ⟨pw, rfl⟩
            have hb7 := pw.h
            obtain ⟨w7, hw7⟩ : ∃ wq, wq = pw.v := ⟨_, rfl⟩
            rw [← hw7] at hb7 ⊢
            have hz7 := hb7.size
            have hb37 : Below w3.heap.size w3 w7 := hb2.trans (hb7.mono hz2)
            have hR7 := HR2.out.keep hb7
            have cb7 := (hb7.cell (p := ⟨gb, k, none⟩) hgbi).trans cbi
            have cx7 := (hb7.cell (p := ⟨gk, ok + q, none⟩) hgki).trans cx
            have hrow : ∀ q', (Value.slice (some ⟨g2, 0, none⟩) m2 k2).ownBlock = some q' → w3.heap.size ≤ q' := fun q' hq' => (hR7.1.lt q' hq').1
            clear hd1 hcb hcx hcm hw7 HC3 HR2 d0 d1 g0 g1' bs bxi f3 cx cbi
            go_wp2_with (first
              | (at_builtin
                 go_must (refine wpList_append_lies _ rfl _ _ 30 rfl w3.heap.size 3 i0 _ 1 8 Tryz.underlying30 hi0 hz00 hz10 hz20 rfl (by omega) _ m2 _ rfl (hR7.1.alloc _) ⟨w7.heap.size, 0, none⟩ 1 1 [.int .i64 (p : Int)] rfl rfl (World.news_of_block (cs := #[.int .i64 (p : Int)]) (t := 3) (fr := (0, 0)) (heap_alloc_new _ _)) (by simp [Value.oneCell']) (by omega) (by unfold maxLen; omega) (by omega) (by simp; omega) _ rfl ?_)
                 intro g9 k9 w9 hown9 hgr9 hat9 hlt9))
            have hR9 : Row w9 w3.heap.size g9 (m2 + 1) k9 (U ++ T.take (q + 1)) := by
              rw [Hs.out, ← List.append_assoc]
              exact ⟨by rw [List.map_append]; exact hown9, by unfold small; omega⟩
            have hb9 : Below w3.heap.size w3 w9 := Below.grown (w := w7.alloc (.cells #[.int .i64 (p : Int)] 3)) (by (repeat (first | (with_reducible assumption) | (with_reducible exact Below.refl _ _) | ((with_reducible refine Below.alloc ?_ ?hsz _); (case hsz => (first | omega | (simp; done) | (simp; omega) | (simp at *; omega)))) | ((with_reducible refine Below.setCell ?_ ?hsz _); (case hsz => (first | omega | (simp; done) | (simp; omega) | (simp at *; omega)))) | (with_reducible refine Below.drew ?_) | (with_reducible refine below_drewN ?_ _) | ((with_reducible refine Below.trans ?_ (Below.mono (by with_reducible assumption) ?hsz)); (case hsz => (first | omega | (simp; done) | (simp; omega) | (simp at *; omega))))))) hgr9 (by (first | omega | (simp; done) | (simp; omega) | (simp at *; omega))) (fun q' hq' => hrow q' hq')
            clear hown9 hgr9 hat9 hlt9 hR7
            go_roundw
            case rel => exact ⟨q + 1, m2 + 1, g9, k9, by omega, by go_num, rfl, by have := HMQ.out; omega, hR9, hb9⟩
            case measure => simp [intOf]; omega
          · have hqM : q = M := by omega
            rw [List.take_of_length_le (by rw [HM.out]; omega), HU.out, ← HFl.out.1] at hR2
            have HR2 := Lib.hid (And.intro hR2 hb2)
            clear hR2 hb2
            go_wp2
            go_roundw
            case rel => exact ⟨k + 1, m2, g2, k2, _, by omega, by go_num, rfl, rfl, by omega, HR2.out.1, HR2.out.2⟩
            case measure => simp [intOf]; omega
      · have HBr := Lib.hid hBr
        clear hR hb
        go_wp2_with fail
        with_reducible refine (fewest_any z i j _ ps _ _ (hp.keep hBr)).mono ?_
        rintro e w7 ⟨r7, rfl, hL7, hn7⟩
        rw [HFB.out]
        obtain ⟨A7, k7, hv7, -, -, -, -⟩ := hL7.form
        rw [HX.out.2.2] at hv7
        subst hv7
        have hB7 : Below w1.heap.size w1 w7 := HBr.out.trans (hn7.mono HBr.out.size)
        clear hn7 hL7 hBr
        go_wp2_with fail
        with_reducible refine (alive_any _).mono ?_
        rintro e w8 ⟨rfl, hn8⟩
        have hB8 : Below w1.heap.size w1 w8 := hB7.trans (hn8.mono hB7.size)
        go_wp2
        (go_ret; exact ⟨rfl, hBw1.trans (Below.mono (by with_reducible assumption) hBw1.size)⟩)
  · have he' : endsB z ps i j = false := by simpa using he
    have hT0 : Ts = [] := HTs.out.symm.trans (thr_none he')
    subst hT0
    obtain rfl : N = 0 := hN.symm
    have HFB := Lib.hid (show fewB z ps i j = false from he')
    clear he he' hN hL23 hL3
    go_wp2_with fail
    go_loopw [9, 8] (fun a o wr => a = .int .i64 0 ∧ Box2 wr w1.heap.size (.int .i64 z) (.slice A1 ps.length c1) ∧ Below w1.heap.size w1 wr) (fun _ _ _ => 0)
    case atStart => exact ⟨rfl, bx3.keep (by (repeat (first | (with_reducible assumption) | (with_reducible exact Below.refl _ _) | ((with_reducible refine Below.alloc ?_ ?hsz _); (case hsz => (first | omega | (simp; done) | (simp; omega) | (simp at *; omega)))) | ((with_reducible refine Below.setCell ?_ ?hsz _); (case hsz => (first | omega | (simp; done) | (simp; omega) | (simp at *; omega)))) | (with_reducible refine Below.drew ?_) | (with_reducible refine below_drewN ?_ _) | ((with_reducible refine Below.trans ?_ (Below.mono (by with_reducible assumption) ?hsz)); (case hsz => (first | omega | (simp; done) | (simp; omega) | (simp at *; omega))))))), by (repeat (first | (with_reducible assumption) | (with_reducible exact Below.refl _ _) | ((with_reducible refine Below.alloc ?_ ?hsz _); (case hsz => (first | omega | (simp; done) | (simp; omega) | (simp at *; omega)))) | ((with_reducible refine Below.setCell ?_ ?hsz _); (case hsz => (first | omega | (simp; done) | (simp; omega) | (simp at *; omega)))) | (with_reducible refine Below.drew ?_) | (with_reducible refine below_drewN ?_ _) | ((with_reducible refine Below.trans ?_ (Below.mono (by with_reducible assumption) ?hsz)); (case hsz => (first | omega | (simp; done) | (simp; omega) | (simp at *; omega))))))⟩
    case round =>
      obtain ⟨rfl, bxr, hBr⟩ := hrel
      clear d0 d1 g0 g1 bs
      obtain ⟨bs, d0, d1, g0, g1⟩ := id bxr
      go_wp2_with fail
      with_reducible refine (fewest_any z i j _ ps _ _ (hp.keep hBr)).mono ?_
      rintro e w7 ⟨r7, rfl, hL7, hn7⟩
      rw [HFB.out]
      obtain ⟨A7, k7, rfl, -, -, -, -⟩ := hL7.form
      have hB7 : Below w1.heap.size w1 w7 := hBr.trans (hn7.mono hBr.size)
      clear hn7 hL7
      go_wp2_with fail
      with_reducible refine (alive_any _).mono ?_
      rintro e w8 ⟨rfl, hn8⟩
      have hB8 : Below w1.heap.size w1 w8 := hB7.trans (hn8.mono hB7.size)
      go_wp2
      (go_ret; exact ⟨rfl, hBw1.trans (Below.mono (by with_reducible assumption) hBw1.size)⟩)

set_option maxRecDepth 100000 in
theorem contract (H : Type) (enc : TypeId × Value → H) (W : World) (base : Nat) (args : Array Value) (ds gs : List (DataW H)) (before : List MemPlace)
    (hval : ∀ (j : Nat) t v, Tryz.f3.params[j]? = some t → args[j]? = some v → Value.okWide Tryz.prog W .any base t v)
    (hW : DataW.Whole enc Tryz.prog Tryz.f3.params.toList Rows.fnThreadsApartSpec.vars false W args.toList ds gs before) :
    Calls Tryz.prog 3 args W fun e W' => ∃ v, e = .returned v ∧ Rows.fnThreadsApartSpec.post enc Tryz.prog Tryz.f3 false true false false W args v W' := by
  have hW' := hW
  obtain ⟨p, q, hA0, hV, rfl, hfz, hnd⟩ := hW
  have hA : DataW.TrodAll enc Tryz.prog W 0 (fun _ => true) true Tryz.f3.params.toList args.toList ds p := hA0
  rw [Tryz.params3] at hA hval
  obtain ⟨u0, us0, d0, ds0, p0, q0, hargs, rfl, rfl, g0, k0⟩ := trodAll_cons hA
  obtain ⟨rfl, rfl, rfl⟩ := trodAll_nil k0
  obtain rfl : args = #[u0] := by cases args; simp_all
  obtain ⟨rfl, rfl⟩ := trodVars_none hV
  obtain ⟨m0, e0⟩ := g0
  obtain ⟨s0, l0, f0, hh0⟩ := open_arg_bytes e0
  have f0' := one_of_cells Tryz.underlying22 (hval 0 _ _ rfl rfl) f0
  subst f0'
  refine (walk _ l0 W hh0).mono fun e W' ⟨he, hb⟩ => ?_
  subst he
  exact ⟨_, rfl, law_post Tryz.kids Tryz.full (by rw [Tryz.params3]; decide) rfl rfl Tryz.underlying4 hW' rfl rfl rfl hb⟩

set_option maxRecDepth 100000 in
theorem lifted (os : Os) (started : os.Started) (H : Type) (enc : TypeId × Value → H) :
    ReturnsInHanded {} Tryz.checked os 3 .any (Rows.fnThreadsApartSpec.pre6 enc Tryz.prog Tryz.f3 Rows.fnThreadsApartRow.domain false) (Rows.fnThreadsApartSpec.post enc Tryz.prog Tryz.f3 false true false false) := by
  refine returnsInHanded_of_change (C := Tryz.checked) Tryz.own started (by kernel_rfl) Tryz.func3
    (ChangeSpec.witness6 (enc := enc) (C := Tryz.checked) false ⟨#[], #[.slice none 0 0], []⟩ 8 (by kernel_rfl) (by kernel_rfl) (by kernel_rfl) (by kernel_rfl)) ?_
  intro W base args ds gs before hval0 hW _ _
  exact contract H enc W base args ds gs before hval0 hW

theorem proved : Rows.FnThreadsApartSaid :=
  OpenClaim.holds_of_wide 3 Tryz.f3 rfl rfl rfl rfl rfl rfl rfl ⟨rfl, rfl, rfl, rfl, rfl⟩ rfl rfl rfl rfl rfl (by kernel_rfl) Tryz.func3 (by kernel_rfl)
    (of_decide_eq_true (by kernel_rfl)) (by unfold Func.isWrapper; first | (rw [if_pos (by decide +kernel)]; kernel_rfl) | (rw [if_neg (by decide +kernel)]; exact ⟨rfl, rfl⟩))
    (fun os started H enc _ => lifted os started H enc)

end Go.Proofs.YtmgpekdhcghabaaGreat.lawThreadsApart
