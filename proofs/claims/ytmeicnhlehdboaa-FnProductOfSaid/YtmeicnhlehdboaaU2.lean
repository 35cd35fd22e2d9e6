/- Contracts of the functions of chapter 7 in the program: tensions and products. -/
import Derived.Test.YtmeicnhlehdboaaJ3
import Derived.Test.YtmeicnhlehdboaaW6
import Derived.Test.YtmeicnhlehdboaaRW
import Derived.Test.YtmeicnhlehdboaaRD
import Derived.Test.YtmeicnhlehdboaaW3
import Derived.Test.YtmeicnhlehdboaaF1
import Derived.Deep.QuietTactic
namespace Go.Proofs.Ytmeicnhlehdboaa
open Go.RowKit

set_option maxHeartbeats 4000000 in
set_option maxRecDepth 20000 in
theorem tensionOf_any (n : Int) (v u : Value) (ps : List Pp) (hs : List Int) (b b' : Nat) (w : World) (hp : Pipes w b v ps) (hx : Ints w b' u hs) :
    Calls Try.prog 25 #[.agg #[.int .i64 n, v], u] w fun e w' => ∃ r, e = .returned r ∧ Ints w' w.heap.size r (tensR n ps hs) ∧ Below w.heap.size w w' := by
  have hp0 := hp
  have hx0 := hx
  obtain ⟨A, c, rfl, hc1, hc2, hsm, hcell⟩ := hp.form
  obtain ⟨A', c', rfl, hc1', hc2', hsm', hcell'⟩ := hx.form
  unfold maxLen at hc2 hc2'
  have bx0 := Box2.new w (.int .i64 n) (.slice A ps.length c) 25
  cases hok : netOkB n ps with
  | false =>
    have Ht : Hid (tensR n ps hs = []) := Lib.hid (by rw [tensR, if_neg (by simp [tensB, hok])])
    go_enter Try.func25, Try.ntmps25
    go_wp2_with fail
    refine (netOk_any _ _ ps b _ (hp0.keep (by (repeat (first | (with_reducible assumption) | (with_reducible exact Below.refl _ _) | ((with_reducible refine Below.alloc ?_ ?hsz _); (case hsz => (first | omega | (simp; done) | (simp; omega) | (simp at *; omega)))) | ((with_reducible refine Below.setCell ?_ ?hsz _); (case hsz => (first | omega | (simp; done) | (simp; omega) | (simp at *; omega)))) | (with_reducible refine Below.drew ?_) | (with_reducible refine below_drewN ?_ _) | ((with_reducible refine Below.trans ?_ (Below.mono (by with_reducible assumption) ?hsz)); (case hsz => (first | omega | (simp; done) | (simp; omega) | (simp at *; omega))))))))).mono ?_
    rintro e w1 ⟨rfl, hb1⟩
    rw [hok]
    go_wp2
    go_ret
    exact ⟨_, rfl, by rw [Ht.out]; exact Ints_nil _ _, by (repeat (first | (with_reducible assumption) | (with_reducible exact Below.refl _ _) | ((with_reducible refine Below.alloc ?_ ?hsz _); (case hsz => (first | omega | (simp; done) | (simp; omega) | (simp at *; omega)))) | ((with_reducible refine Below.setCell ?_ ?hsz _); (case hsz => (first | omega | (simp; done) | (simp; omega) | (simp at *; omega)))) | (with_reducible refine Below.drew ?_) | (with_reducible refine below_drewN ?_ _) | ((with_reducible refine Below.trans ?_ (Below.mono (by with_reducible assumption) ?hsz)); (case hsz => (first | omega | (simp; done) | (simp; omega) | (simp at *; omega))))))⟩
  | true =>
    cases hro : rowB hs n (-40) 40 with
    | false =>
      have Ht : Hid (tensR n ps hs = []) := Lib.hid (by rw [tensR, if_neg (by simp [tensB, hro])])
      go_enter Try.func25, Try.ntmps25
      go_wp2_with fail
      refine (netOk_any _ _ ps b _ (hp0.keep (by (repeat (first | (with_reducible assumption) | (with_reducible exact Below.refl _ _) | ((with_reducible refine Below.alloc ?_ ?hsz _); (case hsz => (first | omega | (simp; done) | (simp; omega) | (simp at *; omega)))) | ((with_reducible refine Below.setCell ?_ ?hsz _); (case hsz => (first | omega | (simp; done) | (simp; omega) | (simp at *; omega)))) | (with_reducible refine Below.drew ?_) | (with_reducible refine below_drewN ?_ _) | ((with_reducible refine Below.trans ?_ (Below.mono (by with_reducible assumption) ?hsz)); (case hsz => (first | omega | (simp; done) | (simp; omega) | (simp at *; omega))))))))).mono ?_
      rintro e w1 ⟨rfl, hb1⟩
      have bx1 := bx0.keep hb1
      have hB1 : Below w.heap.size w w1 := by (repeat (first | (with_reducible assumption) | (with_reducible exact Below.refl _ _) | ((with_reducible refine Below.alloc ?_ ?hsz _); (case hsz => (first | omega | (simp; done) | (simp; omega) | (simp at *; omega)))) | ((with_reducible refine Below.setCell ?_ ?hsz _); (case hsz => (first | omega | (simp; done) | (simp; omega) | (simp at *; omega)))) | (with_reducible refine Below.drew ?_) | (with_reducible refine below_drewN ?_ _) | ((with_reducible refine Below.trans ?_ (Below.mono (by with_reducible assumption) ?hsz)); (case hsz => (first | omega | (simp; done) | (simp; omega) | (simp at *; omega))))))
      rw [hok]
      clear bx0 hb1 hok
      obtain ⟨bs, d0, d1, -, -⟩ := id bx1
      go_wp2_with fail
      refine (rowOk_any _ hs n (-40) 40 b' _ (hx0.keep hB1)).mono ?_
      rintro e w2 ⟨rfl, hb2⟩
      rw [hro]
      go_wp2
      go_ret
      exact ⟨_, rfl, by rw [Ht.out]; exact Ints_nil _ _, by (repeat (first | (with_reducible assumption) | (with_reducible exact Below.refl _ _) | ((with_reducible refine Below.alloc ?_ ?hsz _); (case hsz => (first | omega | (simp; done) | (simp; omega) | (simp at *; omega)))) | ((with_reducible refine Below.setCell ?_ ?hsz _); (case hsz => (first | omega | (simp; done) | (simp; omega) | (simp at *; omega)))) | (with_reducible refine Below.drew ?_) | (with_reducible refine below_drewN ?_ _) | ((with_reducible refine Below.trans ?_ (Below.mono (by with_reducible assumption) ?hsz)); (case hsz => (first | omega | (simp; done) | (simp; omega) | (simp at *; omega))))))⟩
    | true =>
      have Ht : Hid (tensR n ps hs = tensL (lab hs) ps) := Lib.hid (by rw [tensR, if_pos (by simp [tensB, hok, hro])])
      obtain ⟨n2, n5, hl7, -⟩ := netOk_parts hok
      have HE := Lib.hid (show ∀ p ∈ ps, endsIn n p from net_endsIn hok)
      obtain ⟨hln, hbd⟩ := rowB_parts hro
      have HBD := Lib.hid hbd
      have HLN := Lib.hid hln
      obtain ⟨M, hM⟩ : ∃ M, ps.length = M := ⟨_, rfl⟩
      have HM := Lib.hid hM
      rw [hM] at bx0 hl7 hc1
      have hp1 := hp0
      rw [hM] at hp1
      rw [hM]
      have hmade := fun W => run_make_ints (n := M) (by omega) W
      go_enter Try.func25, Try.ntmps25
      go_wp2_with fail
      refine (netOk_any _ _ ps b _ (hp1.keep (by (repeat (first | (with_reducible assumption) | (with_reducible exact Below.refl _ _) | ((with_reducible refine Below.alloc ?_ ?hsz _); (case hsz => (first | omega | (simp; done) | (simp; omega) | (simp at *; omega)))) | ((with_reducible refine Below.setCell ?_ ?hsz _); (case hsz => (first | omega | (simp; done) | (simp; omega) | (simp at *; omega)))) | (with_reducible refine Below.drew ?_) | (with_reducible refine below_drewN ?_ _) | ((with_reducible refine Below.trans ?_ (Below.mono (by with_reducible assumption) ?hsz)); (case hsz => (first | omega | (simp; done) | (simp; omega) | (simp at *; omega))))))))).mono ?_
      rintro e w1 ⟨rfl, hb1⟩
      have bx1 := bx0.keep hb1
      have hB1 : Below w.heap.size w w1 := by (repeat (first | (with_reducible assumption) | (with_reducible exact Below.refl _ _) | ((with_reducible refine Below.alloc ?_ ?hsz _); (case hsz => (first | omega | (simp; done) | (simp; omega) | (simp at *; omega)))) | ((with_reducible refine Below.setCell ?_ ?hsz _); (case hsz => (first | omega | (simp; done) | (simp; omega) | (simp at *; omega)))) | (with_reducible refine Below.drew ?_) | (with_reducible refine below_drewN ?_ _) | ((with_reducible refine Below.trans ?_ (Below.mono (by with_reducible assumption) ?hsz)); (case hsz => (first | omega | (simp; done) | (simp; omega) | (simp at *; omega))))))
      rw [hok]
      clear bx0 hb1 hok
      obtain ⟨bs, d0, d1, -, -⟩ := id bx1
      go_wp2_with fail
      refine (rowOk_any _ hs n (-40) 40 b' _ (hx0.keep hB1)).mono ?_
      rintro e w2 ⟨rfl, hb2⟩
      rw [hro]
      have bx2 := bx1.keep hb2
      have hB2 : Below w.heap.size w w2 := by (repeat (first | (with_reducible assumption) | (with_reducible exact Below.refl _ _) | ((with_reducible refine Below.alloc ?_ ?hsz _); (case hsz => (first | omega | (simp; done) | (simp; omega) | (simp at *; omega)))) | ((with_reducible refine Below.setCell ?_ ?hsz _); (case hsz => (first | omega | (simp; done) | (simp; omega) | (simp at *; omega)))) | (with_reducible refine Below.drew ?_) | (with_reducible refine below_drewN ?_ _) | ((with_reducible refine Below.trans ?_ (Below.mono (by with_reducible assumption) ?hsz)); (case hsz => (first | omega | (simp; done) | (simp; omega) | (simp at *; omega))))))
      have hz2 := hB2.size
      clear bx1 hb2 d0 d1 bs hro hB1 n2 n5 hln hbd hM
      obtain ⟨bs, d0, d1, -, -⟩ := id bx2
      have HZ2 : Hid (w.heap.size < w2.heap.size) := Lib.hid (by have := bx2.1; omega)
      have hR2 := own_made7 w2 (N := M) (by omega)
      have bx3 := bx2.keep ((Below.refl w2.heap.size w2).alloc (Nat.le_refl _) (.cells (madeCells #[.int .i64 0] M) 3))
      have hB3 : Below w.heap.size w (w2.alloc (.cells (madeCells #[.int .i64 0] M) 3)) := by (repeat (first | (with_reducible assumption) | (with_reducible exact Below.refl _ _) | ((with_reducible refine Below.alloc ?_ ?hsz _); (case hsz => (first | omega | (simp; done) | (simp; omega) | (simp at *; omega)))) | ((with_reducible refine Below.setCell ?_ ?hsz _); (case hsz => (first | omega | (simp; done) | (simp; omega) | (simp at *; omega)))) | (with_reducible refine Below.drew ?_) | (with_reducible refine below_drewN ?_ _) | ((with_reducible refine Below.trans ?_ (Below.mono (by with_reducible assumption) ?hsz)); (case hsz => (first | omega | (simp; done) | (simp; omega) | (simp at *; omega))))))
      go_wp2
      go_loopw [25] (fun i wr => ∃ (k : Nat) (zs : List Int), k ≤ M ∧ i = .int .i64 (k : Int) ∧ zs.length = M ∧ zs.take k = (tensL (lab hs) ps).take k ∧ Row wr w2.heap.size w2.heap.size M M zs ∧
          Box2 wr w.heap.size (.int .i64 n) (.slice A M c) ∧ Below w.heap.size w wr) (fun i _ => M - (intOf i).toNat)
      case atStart => exact ⟨0, List.replicate M 0, by omega, rfl, by simp, by simp, hR2, bx3, hB3⟩
      case round =>
        clear bx2 bx3 hB3 hR2 d0 d1 bs
        obtain ⟨k, zs, hk, rfl, hzl, hzk, hR, bx, hb⟩ := hrel
        have hzb := hb.size
        obtain ⟨bs, d0, d1, -, -⟩ := id bx
        have HZ := Lib.hid (And.intro hzl hzk)
        clear hzl hzk
        by_cases hlt : k < M
        · have hkp : k < ps.length := by rw [HM.out]; exact hlt
          obtain ⟨g, rfl, hg1, hg2, q0, q1, q2, q3, q4⟩ := hcell wr hb k hkp
          obtain ⟨a0, a1, b0, b1, -⟩ := HE.out ps[k] (List.getElem_mem hkp)
          have HT1 : Hid ((tensL (lab hs) ps)[k]? = some (lab hs ps[k].to - lab hs ps[k].fr)) := Lib.hid (by simp [tensL, hkp])
          obtain ⟨a, ha⟩ : ∃ a : Nat, ps[k].fr = (a : Int) := ⟨ps[k].fr.toNat, by omega⟩
          obtain ⟨e, he⟩ : ∃ e : Nat, ps[k].to = (e : Int) := ⟨ps[k].to.toNat, by omega⟩
          rw [ha] at a0 a1 q0 HT1
          rw [he] at b0 b1 q1 HT1
          have haN : a < hs.length := by have := HLN.out; omega
          have heN : e < hs.length := by have := HLN.out; omega
          obtain ⟨g', hA', hg1', hg2', x0, -⟩ := hcell' wr hb a haN
          obtain ⟨g'', hA'', -, -, x1, -⟩ := hcell' wr hb e heN
          rw [hA'] at hA''
          injection hA'' with hA''
          injection hA'' with hA''
          subst hA''
          subst hA'
          have l0 : lab hs (a : Int) = hs[a] := by simp [lab, List.getD_eq_getElem?_getD, haN]
          have l1 : lab hs (e : Int) = hs[e] := by simp [lab, List.getD_eq_getElem?_getD, heN]
          have r0 := HBD.out _ (List.getElem_mem haN)
          have r1 := HBD.out _ (List.getElem_mem heN)
          rw [l0, l1] at HT1
          obtain ⟨xa, hxa⟩ : ∃ x, hs[a] = x := ⟨_, rfl⟩
          obtain ⟨xe, hxe⟩ : ∃ x, hs[e] = x := ⟨_, rfl⟩
          rw [hxa] at x0 HT1 r0
          rw [hxe] at x1 HT1 r1
          have haL : (a : Int) < (hs.length : Int) := by omega
          have heL : (e : Int) < (hs.length : Int) := by omega
          have hglr := hR.lt.2
          have hgr' : g' < wr.heap.size := by omega
          have hgr : g < wr.heap.size := by omega
          obtain ⟨r00, r01⟩ := r0
          obtain ⟨r10, r11⟩ := r1
          have hne : w2.heap.size ≠ w.heap.size := by have := HZ2.out; omega
          obtain ⟨-, z0⟩ := hR.at' k hlt
          obtain ⟨y0, -⟩ := hR.at' k hlt
          clear ha he l0 l1 hxa hxe a1 b1
          go_wp2
          go_region
          go_wp2
          go_roundw
          case rel =>
            exact ⟨k + 1, zs.set k (xe - xa), by omega, by go_num, by simp; exact HZ.out.1, set_take (by rw [HZ.out.1]; exact hlt) HZ.out.2 HT1.out, (hR.set k (xe - xa)).keep (by (repeat (first | (with_reducible assumption) | (with_reducible exact Below.refl _ _) | ((with_reducible refine Below.alloc ?_ ?hsz _); (case hsz => (first | omega | (simp; done) | (simp; omega) | (simp at *; omega)))) | ((with_reducible refine Below.setCell ?_ ?hsz _); (case hsz => (first | omega | (simp; done) | (simp; omega) | (simp at *; omega)))) | (with_reducible refine Below.drew ?_) | (with_reducible refine below_drewN ?_ _) | ((with_reducible refine Below.trans ?_ (Below.mono (by with_reducible assumption) ?hsz)); (case hsz => (first | omega | (simp; done) | (simp; omega) | (simp at *; omega))))))), (bx.far (p := ⟨w2.heap.size, k, none⟩) (by simpa using hne) (.int .i64 (xe - xa))).keep (by (repeat (first | (with_reducible assumption) | (with_reducible exact Below.refl _ _) | ((with_reducible refine Below.alloc ?_ ?hsz _); (case hsz => (first | omega | (simp; done) | (simp; omega) | (simp at *; omega)))) | ((with_reducible refine Below.setCell ?_ ?hsz _); (case hsz => (first | omega | (simp; done) | (simp; omega) | (simp at *; omega)))) | (with_reducible refine Below.drew ?_) | (with_reducible refine below_drewN ?_ _) | ((with_reducible refine Below.trans ?_ (Below.mono (by with_reducible assumption) ?hsz)); (case hsz => (first | omega | (simp; done) | (simp; omega) | (simp at *; omega))))))), by (repeat (first | (with_reducible assumption) | (with_reducible exact Below.refl _ _) | ((with_reducible refine Below.alloc ?_ ?hsz _); (case hsz => (first | omega | (simp; done) | (simp; omega) | (simp at *; omega)))) | ((with_reducible refine Below.setCell ?_ ?hsz _); (case hsz => (first | omega | (simp; done) | (simp; omega) | (simp at *; omega)))) | (with_reducible refine Below.drew ?_) | (with_reducible refine below_drewN ?_ _) | ((with_reducible refine Below.trans ?_ (Below.mono (by with_reducible assumption) ?hsz)); (case hsz => (first | omega | (simp; done) | (simp; omega) | (simp at *; omega))))))⟩
          case measure => simp [intOf]; omega
        · have hkM : k = M := by omega
          have hzz : zs = tensL (lab hs) ps := by
            have h2 := HZ.out.2
            rw [List.take_of_length_le (by rw [HZ.out.1]; omega), List.take_of_length_le (by rw [tensL_len, HM.out]; omega)] at h2
            exact h2
          have hfin := hR.ints
          rw [hzz] at hfin
          clear hzz
          go_wp2
          go_ret
          exact ⟨_, rfl, by rw [Ht.out]; exact hfin.mono (by have := HZ2.out; omega), hb⟩

/-- what the operations of a product yield -/
def prV7 (u v : Value) (g h k : Nat) (x y : Int) : Nat → Value → Prop
  | 0, z => z = u
  | 1, z => z = .int .i64 k
  | 2, z => z = .pointer (some ⟨g, k, none⟩)
  | 3, z => z = .int .i64 x
  | 4, z => z = v
  | 5, z => z = .int .i64 k
  | 6, z => z = .pointer (some ⟨h, k, none⟩)
  | 7, z => z = .int .i64 y
  | 8, z => z = .int .i64 (x * y)
  | 9, z => z = .int .i64 (x * y)
  | _, _ => True

set_option maxHeartbeats 1000000 in
set_option maxRecDepth 20000 in
theorem prodFn_any (k ba bb : Nat) (p : Pp) (u v : Value) (xs ys : List Int) (b b' : Nat) (w : World) (hx : Ints w b u xs) (hy : Ints w b' v ys) (hk : k < xs.length) (hk' : k < ys.length) (hax : ∀ x ∈ xs, -80 ≤ x ∧ x ≤ 80) (hay : ∀ x ∈ ys, -80 ≤ x ∧ x ≤ 80)
    (l0 : ba < w.heap.size) (l1 : bb < w.heap.size) (d0 : w.cell? ⟨ba, 0, none⟩ = some u) (d1 : w.cell? ⟨bb, 0, none⟩ = some v) :
    Calls Try.prog 55 #[.int .i64 k, .agg #[.int .i64 p.fr, .int .i64 p.to, .int .i64 p.le, .int .i64 p.mo, .int .i64 p.co], .pointer (some ⟨ba, 0, none⟩), .pointer (some ⟨bb, 0, none⟩)] w fun e w' => e = .returned (.int .i64 (xs[k] * ys[k])) ∧ Below w.heap.size w w' := by
  obtain ⟨A, c, rfl, hc1, hc2, hs, hcell⟩ := hx.form
  obtain ⟨A', c', rfl, hc1', hc2', hs', hcell'⟩ := hy.form
  unfold maxLen at hc2 hc2'
  obtain ⟨g, rfl, hg1, hg2, c0, _⟩ := hcell w (Below.refl _ _) k hk
  obtain ⟨h, rfl, hh1, hh2, e0, _⟩ := hcell' w (Below.refl _ _) k hk'
  have hb := mul_bd (m := 80) (hax _ (List.getElem_mem hk)) (hay _ (List.getElem_mem hk'))
  generalize xs[k] = x at *
  generalize ys[k] = y at *
  have hwr := IntWalk.i64_in (x * y) (by omega)
  generalize hW1 : w.alloc (.cells #[.int .i64 p.fr, .int .i64 p.to, .int .i64 p.le, .int .i64 p.mo, .int .i64 p.co] 51) = W1
  have hB1 : Below w.heap.size w W1 := by rw [← hW1]; exact (Below.refl _ _).alloc (Nat.le_refl _) _
  have hz1 : W1.heap.size = w.heap.size + 1 := by rw [← hW1]; simp
  have q1 : W1.cell? ⟨ba, 0, none⟩ = some (.slice (some ⟨g, 0, none⟩) xs.length c) := (hB1.cell (p := ⟨ba, 0, none⟩) l0).trans d0
  have q2 : W1.cell? ⟨bb, 0, none⟩ = some (.slice (some ⟨h, 0, none⟩) ys.length c') := (hB1.cell (p := ⟨bb, 0, none⟩) l1).trans d1
  have q3 : W1.cell? ⟨g, k, none⟩ = some (.int .i64 x) := (hB1.cell (p := ⟨g, k, none⟩) hg2).trans c0
  have q4 : W1.cell? ⟨h, k, none⟩ = some (.int .i64 y) := (hB1.cell (p := ⟨h, k, none⟩) hh2).trans e0
  go_enter Try.func55, Try.ntmps55
  go_wp2_with fail
  generalize hW2 : World.alloc w _ = W2
  obtain rfl : W1 = W2 := hW1.symm.trans hW2
  refine wp_region_flow 10 none [(0, 7), (1, 8), (2, 9), (3, 10), (4, 11), (5, 12), (6, 13), (7, 14), (8, 15), (9, 6)] (fun j z _ _ => prV7 (.slice (some ⟨g, 0, none⟩) xs.length c) (.slice (some ⟨h, 0, none⟩) ys.length c') g h k x y j z) (fun _ _ _ => True) (fun _ wx => Below W1.heap.size W1 wx) (by kernel_rfl) (by kernel_rfl) rfl ⟨rfl, rfl, rfl, Nat.le_refl _, fun _ _ => rfl⟩ ?_ ?_ ?_ ?_
  · exact fun _ _ _ _ _ _ _ _ _ _ h => h
  · exact fun _ _ _ _ _ _ _ h => h
  · simp only [eachOp, fillF, List.setIfInBounds_toArray, List.set_cons_succ, List.set_cons_zero]
    refine ⟨?_, ?_, ?_, ?_, ?_, ?_, ?_, ?_, ?_, ?_, trivial⟩ <;> intro u f wx hC hd <;> (try simp [allV, useOf, Region.binds] at hd)
    · have e1 := (bel_cell hC (by omega)).trans q1
      go_wp2
      exact ⟨_, rfl, rfl, trivial, hC⟩
    · go_wp2
      exact ⟨_, rfl, rfl, trivial, hC⟩
    · rw [show u 0 = _ from hd.1, show u 1 = _ from hd.2]
      go_wp2
      exact ⟨_, rfl, rfl, trivial, hC⟩
    · rw [show u 2 = _ from hd]
      have e1 := (bel_cell hC (by omega)).trans q3
      go_wp2
      exact ⟨_, rfl, rfl, trivial, hC⟩
    · have e1 := (bel_cell hC (by omega)).trans q2
      go_wp2
      exact ⟨_, rfl, rfl, trivial, hC⟩
    · go_wp2
      exact ⟨_, rfl, rfl, trivial, hC⟩
    · rw [show u 4 = _ from hd.1, show u 5 = _ from hd.2]
      go_wp2
      exact ⟨_, rfl, rfl, trivial, hC⟩
    · rw [show u 6 = _ from hd]
      have e1 := (bel_cell hC (by omega)).trans q4
      go_wp2
      exact ⟨_, rfl, rfl, trivial, hC⟩
    · rw [show u 3 = _ from hd.1, show u 7 = _ from hd.2]
      go_wp2
      exact ⟨_, rfl, rfl, trivial, hC⟩
    · rw [show u 8 = _ from hd]
      go_wp2
      exact ⟨_, rfl, rfl, trivial, hC⟩
  · intro u f wx hC hfin
    simp only [fillEnd, fillF, Act.put, List.setIfInBounds_toArray, List.set_cons_succ, List.set_cons_zero]
    rw [show u 9 = _ from hfin 9 (by decide) (by decide)]
    go_wp2
    go_ret
    exact ⟨rfl, hB1.trans (hC.mono (by omega))⟩

set_option maxHeartbeats 1000000 in
set_option maxRecDepth 20000 in
theorem prodSum_any (ba bb : Nat) (v u1 u2 : Value) (ps : List Pp) (xs ys : List Int) (b b1 b2 : Nat) (w : World) (hp : Pipes w b v ps) (hx : Ints w b1 u1 xs) (hy : Ints w b2 u2 ys) (h7 : ps.length ≤ 7) (hl1 : xs.length = ps.length) (hl2 : ys.length = ps.length)
    (hax : ∀ x ∈ xs, -80 ≤ x ∧ x ≤ 80) (hay : ∀ x ∈ ys, -80 ≤ x ∧ x ≤ 80) (l0 : ba < w.heap.size) (l1 : bb < w.heap.size) (d0 : w.cell? ⟨ba, 0, none⟩ = some u1) (d1 : w.cell? ⟨bb, 0, none⟩ = some u2) :
    Calls Try.prog 54 #[v, .func (Fn.func 55) #[] #[.pointer (some ⟨ba, 0, none⟩), .pointer (some ⟨bb, 0, none⟩)]] w fun e w' => e = .returned (.int .i64 (prodI xs ys)) ∧ Below w.heap.size w w' := by
  obtain ⟨A, c, rfl, hc1, hc2, hs, hcell⟩ := hp.form
  unfold maxLen at hc2
  have HL := Lib.hid (And.intro hl1 (And.intro hl2 (And.intro hax hay)))
  clear hl1 hl2 hax hay
  go_enter Try.func54, Try.ntmps54
  go_wp2
  go_loopw [10, 5] (fun i s wr => ∃ k : Nat, k ≤ ps.length ∧ i = .int .i64 k ∧ s = .int .i64 (prodI (xs.take k) (ys.take k)) ∧ Below w.heap.size w wr) (fun i _ _ => ps.length - (intOf i).toNat)
  case atStart => exact ⟨0, by omega, rfl, rfl, Below.refl _ _⟩
  case round =>
    obtain ⟨k, hk, rfl, rfl, hb⟩ := hrel
    obtain ⟨hcr, hfr, hzr⟩ := bcell hb
    by_cases hlt : k < ps.length
    · obtain ⟨g, rfl, hg1, hg2, c0, c1, c2, c3, c4⟩ := hcell w (Below.refl _ _) k hlt
      have hlx : k < xs.length := by have := HL.out.1; omega
      have hly : k < ys.length := by have := HL.out.2.1; omega
      obtain ⟨g1, g2⟩ := prod_bd (a := xs.take k) (b := ys.take k) (m := 80) (fun x hx => HL.out.2.2.1 x (List.mem_of_mem_take hx)) (fun x hx => HL.out.2.2.2 x (List.mem_of_mem_take hx))
      have hkl : (xs.take k).length ≤ 7 := by rw [List.length_take]; omega
      have hm := mul_bd (m := 80) (HL.out.2.2.1 _ (List.getElem_mem hlx)) (HL.out.2.2.2 _ (List.getElem_mem hly))
      have Hs := Lib.hid (prod_snoc xs ys k hlx hly)
      generalize hq : prodI (xs.take k) (ys.take k) = q at *
      obtain ⟨xy, hxy⟩ : ∃ xy, xs[k] * ys[k] = xy := ⟨_, rfl⟩
      rw [hxy] at hm Hs
      have HX := Lib.hid hxy
      obtain ⟨m1, m2⟩ := hm
      have q1 : -50000 ≤ q := by omega
      have q2 : q ≤ 50000 := by omega
      clear g1 g2 hkl hq hxy
      go_wp2_with fail
      refine (prodFn_any k ba bb ps[k] u1 u2 xs ys b1 b2 _ (hx.keep (by (repeat (first | (with_reducible assumption) | (with_reducible exact Below.refl _ _) | ((with_reducible refine Below.alloc ?_ ?hsz _); (case hsz => (first | omega | (simp; done) | (simp; omega) | (simp at *; omega)))) | ((with_reducible refine Below.setCell ?_ ?hsz _); (case hsz => (first | omega | (simp; done) | (simp; omega) | (simp at *; omega)))) | (with_reducible refine Below.drew ?_) | (with_reducible refine below_drewN ?_ _) | ((with_reducible refine Below.trans ?_ (Below.mono (by with_reducible assumption) ?hsz)); (case hsz => (first | omega | (simp; done) | (simp; omega) | (simp at *; omega)))))))) (hy.keep (by (repeat (first | (with_reducible assumption) | (with_reducible exact Below.refl _ _) | ((with_reducible refine Below.alloc ?_ ?hsz _); (case hsz => (first | omega | (simp; done) | (simp; omega) | (simp at *; omega)))) | ((with_reducible refine Below.setCell ?_ ?hsz _); (case hsz => (first | omega | (simp; done) | (simp; omega) | (simp at *; omega)))) | (with_reducible refine Below.drew ?_) | (with_reducible refine below_drewN ?_ _) | ((with_reducible refine Below.trans ?_ (Below.mono (by with_reducible assumption) ?hsz)); (case hsz => (first | omega | (simp; done) | (simp; omega) | (simp at *; omega)))))))) hlx hly HL.out.2.2.1 HL.out.2.2.2 (by (first | omega | (simp; done) | (simp; omega) | (simp at *; omega))) (by (first | omega | (simp; done) | (simp; omega) | (simp at *; omega))) (by (repeat (first | (with_reducible assumption) | ((with_reducible refine (Below.cell (by with_reducible assumption) ?hsz).trans ?_); (case hsz => (first | omega | (simp; done) | (simp; omega) | (simp at *; omega)))) | ((with_reducible refine (World.cell?_alloc_lt _ _ _ ?hsz).trans ?_); (case hsz => (first | omega | (simp; done) | (simp; omega) | (simp at *; omega)))) | ((with_reducible refine (World.cell?_setCell_other _ _ _ _ ?hsz).trans ?_); (case hsz => (intro h; injection h with h1 h2; omega)))))) (by (repeat (first | (with_reducible assumption) | ((with_reducible refine (Below.cell (by with_reducible assumption) ?hsz).trans ?_); (case hsz => (first | omega | (simp; done) | (simp; omega) | (simp at *; omega)))) | ((with_reducible refine (World.cell?_alloc_lt _ _ _ ?hsz).trans ?_); (case hsz => (first | omega | (simp; done) | (simp; omega) | (simp at *; omega)))) | ((with_reducible refine (World.cell?_setCell_other _ _ _ _ ?hsz).trans ?_); (case hsz => (intro h; injection h with h1 h2; omega))))))).mono ?_
      rintro e w1 ⟨rfl, hb1⟩; obtain ⟨hc1, hf1, hz1⟩ := bcell hb1; (try simp at hz1); (try have hy1 : w.heap.size < w1.heap.size := by omega); (try have hy2 : w.heap.size + 1 < w1.heap.size := by omega); (try have hy3 : w.heap.size + 1 + 1 < w1.heap.size := by omega)
      rw [HX.out]
      go_wp2
      go_roundw
      case rel => exact ⟨k + 1, by omega, by go_num, by rw [Hs.out], by (repeat (first | (with_reducible assumption) | (with_reducible exact Below.refl _ _) | ((with_reducible refine Below.alloc ?_ ?hsz _); (case hsz => (first | omega | (simp; done) | (simp; omega) | (simp at *; omega)))) | ((with_reducible refine Below.setCell ?_ ?hsz _); (case hsz => (first | omega | (simp; done) | (simp; omega) | (simp at *; omega)))) | (with_reducible refine Below.drew ?_) | (with_reducible refine below_drewN ?_ _) | ((with_reducible refine Below.trans ?_ (Below.mono (by with_reducible assumption) ?hsz)); (case hsz => (first | omega | (simp; done) | (simp; omega) | (simp at *; omega))))))⟩
      case measure => simp [intOf]; omega
    · go_wp2
      go_ret
      have : k = ps.length := by omega
      subst this
      exact ⟨ret_int (by rw [List.take_of_length_le (by have := HL.out.1; omega), List.take_of_length_le (by have := HL.out.2.1; omega)]), by (repeat (first | (with_reducible assumption) | (with_reducible exact Below.refl _ _) | ((with_reducible refine Below.alloc ?_ ?hsz _); (case hsz => (first | omega | (simp; done) | (simp; omega) | (simp at *; omega)))) | ((with_reducible refine Below.setCell ?_ ?hsz _); (case hsz => (first | omega | (simp; done) | (simp; omega) | (simp at *; omega)))) | (with_reducible refine Below.drew ?_) | (with_reducible refine below_drewN ?_ _) | ((with_reducible refine Below.trans ?_ (Below.mono (by with_reducible assumption) ?hsz)); (case hsz => (first | omega | (simp; done) | (simp; omega) | (simp at *; omega))))))⟩

set_option maxHeartbeats 1000000 in
set_option maxRecDepth 20000 in
theorem signedFn_any (bn : Nat) (v u : Value) (ps : List Pp) (xs : List Int) (b b' : Nat) (w : World) (hp : Pipes w b v ps) (hx : Ints w b' u xs) (d1 : w.cell? ⟨bn, 1, none⟩ = some v) :
    Calls Try.prog 53 #[u, .pointer (some ⟨bn, 0, none⟩)] w fun e w' => e = .returned (.bool (rowB xs (ps.length : Int) (-80) 80)) ∧ Below w.heap.size w w' := by
  have hx0 := hx
  obtain ⟨A, c, rfl, hc1, hc2, hs, -⟩ := hp.form
  obtain ⟨A', c', rfl, -, -, -, -⟩ := hx.form
  unfold maxLen at hc2
  go_enter Try.func53, Try.ntmps53
  go_wp2_with fail
  refine (rowOk_any _ xs (ps.length : Int) (-80) 80 b' _ (hx0.keep (by (repeat (first | (with_reducible assumption) | (with_reducible exact Below.refl _ _) | ((with_reducible refine Below.alloc ?_ ?hsz _); (case hsz => (first | omega | (simp; done) | (simp; omega) | (simp at *; omega)))) | ((with_reducible refine Below.setCell ?_ ?hsz _); (case hsz => (first | omega | (simp; done) | (simp; omega) | (simp at *; omega)))) | (with_reducible refine Below.drew ?_) | (with_reducible refine below_drewN ?_ _) | ((with_reducible refine Below.trans ?_ (Below.mono (by with_reducible assumption) ?hsz)); (case hsz => (first | omega | (simp; done) | (simp; omega) | (simp at *; omega))))))))).mono ?_
  rintro e w1 ⟨rfl, hb1⟩; obtain ⟨hc1, hf1, hz1⟩ := bcell hb1; (try simp at hz1); (try have hy1 : w.heap.size < w1.heap.size := by omega); (try have hy2 : w.heap.size + 1 < w1.heap.size := by omega); (try have hy3 : w.heap.size + 1 + 1 < w1.heap.size := by omega)
  go_wp2
  go_ret
  exact ⟨rfl, by (repeat (first | (with_reducible assumption) | (with_reducible exact Below.refl _ _) | ((with_reducible refine Below.alloc ?_ ?hsz _); (case hsz => (first | omega | (simp; done) | (simp; omega) | (simp at *; omega)))) | ((with_reducible refine Below.setCell ?_ ?hsz _); (case hsz => (first | omega | (simp; done) | (simp; omega) | (simp at *; omega)))) | (with_reducible refine Below.drew ?_) | (with_reducible refine below_drewN ?_ _) | ((with_reducible refine Below.trans ?_ (Below.mono (by with_reducible assumption) ?hsz)); (case hsz => (first | omega | (simp; done) | (simp; omega) | (simp at *; omega))))))⟩

set_option maxHeartbeats 2000000 in
set_option maxRecDepth 20000 in
theorem productOf_any (n : Int) (v u1 u2 : Value) (ps : List Pp) (xs ys : List Int) (b b1 b2 : Nat) (w : World) (hp : Pipes w b v ps) (hx : Ints w b1 u1 xs) (hy : Ints w b2 u2 ys) :
    Calls Try.prog 27 #[.agg #[.int .i64 n, v], u1, u2] w fun e w' => e = .returned (.tuple #[.int .i64 (prodR n ps xs ys), .bool (prodB n ps xs ys)]) ∧ Below w.heap.size w w' := by
  have hp0 := hp
  have hx0 := hx
  have hy0 := hy
  obtain ⟨A, c, rfl, -, -, -, -⟩ := hp.form
  obtain ⟨A1, c1, rfl, -, -, -, -⟩ := hx.form
  obtain ⟨A2, c2, rfl, -, -, -, -⟩ := hy.form
  have bx0 := ((Box2.new w (.int .i64 n) (.slice A ps.length c) 25).keep ((Below.refl _ _).alloc (Nat.le_refl _) (.cells #[.slice A1 xs.length c1] 27))).keep ((Below.refl _ _).alloc (Nat.le_refl _) (.cells #[.slice A2 ys.length c2] 27))
  cases hok : netOkB n ps with
  | false =>
    have Hb : Hid (prodB n ps xs ys = false) := Lib.hid (by simp [prodB, hok])
    go_enter Try.func27, Try.ntmps27
    go_wp2_with fail
    refine (netOk_any _ _ ps b _ (hp0.keep (by (repeat (first | (with_reducible assumption) | (with_reducible exact Below.refl _ _) | ((with_reducible refine Below.alloc ?_ ?hsz _); (case hsz => (first | omega | (simp; done) | (simp; omega) | (simp at *; omega)))) | ((with_reducible refine Below.setCell ?_ ?hsz _); (case hsz => (first | omega | (simp; done) | (simp; omega) | (simp at *; omega)))) | (with_reducible refine Below.drew ?_) | (with_reducible refine below_drewN ?_ _) | ((with_reducible refine Below.trans ?_ (Below.mono (by with_reducible assumption) ?hsz)); (case hsz => (first | omega | (simp; done) | (simp; omega) | (simp at *; omega))))))))).mono ?_
    rintro e w1 ⟨rfl, hb1⟩
    rw [hok]
    go_wp2
    go_ret2
    exact ⟨ret_ib (by rw [prodR, if_neg (by rw [Hb.out]; simp), Hb.out]), by (repeat (first | (with_reducible assumption) | (with_reducible exact Below.refl _ _) | ((with_reducible refine Below.alloc ?_ ?hsz _); (case hsz => (first | omega | (simp; done) | (simp; omega) | (simp at *; omega)))) | ((with_reducible refine Below.setCell ?_ ?hsz _); (case hsz => (first | omega | (simp; done) | (simp; omega) | (simp at *; omega)))) | (with_reducible refine Below.drew ?_) | (with_reducible refine below_drewN ?_ _) | ((with_reducible refine Below.trans ?_ (Below.mono (by with_reducible assumption) ?hsz)); (case hsz => (first | omega | (simp; done) | (simp; omega) | (simp at *; omega))))))⟩
  | true =>
    obtain ⟨-, -, hl7, -⟩ := netOk_parts hok
    cases ha : rowB xs (ps.length : Int) (-80) 80 with
    | false =>
      have Hb : Hid (prodB n ps xs ys = false) := Lib.hid (by simp [prodB, ha])
      go_enter Try.func27, Try.ntmps27
      go_wp2_with fail
      refine (netOk_any _ _ ps b _ (hp0.keep (by (repeat (first | (with_reducible assumption) | (with_reducible exact Below.refl _ _) | ((with_reducible refine Below.alloc ?_ ?hsz _); (case hsz => (first | omega | (simp; done) | (simp; omega) | (simp at *; omega)))) | ((with_reducible refine Below.setCell ?_ ?hsz _); (case hsz => (first | omega | (simp; done) | (simp; omega) | (simp at *; omega)))) | (with_reducible refine Below.drew ?_) | (with_reducible refine below_drewN ?_ _) | ((with_reducible refine Below.trans ?_ (Below.mono (by with_reducible assumption) ?hsz)); (case hsz => (first | omega | (simp; done) | (simp; omega) | (simp at *; omega))))))))).mono ?_
      rintro e w1 ⟨rfl, hb1⟩
      rw [hok]
      have bx1 := bx0.keep hb1
      have hB1 : Below w.heap.size w w1 := by (repeat (first | (with_reducible assumption) | (with_reducible exact Below.refl _ _) | ((with_reducible refine Below.alloc ?_ ?hsz _); (case hsz => (first | omega | (simp; done) | (simp; omega) | (simp at *; omega)))) | ((with_reducible refine Below.setCell ?_ ?hsz _); (case hsz => (first | omega | (simp; done) | (simp; omega) | (simp at *; omega)))) | (with_reducible refine Below.drew ?_) | (with_reducible refine below_drewN ?_ _) | ((with_reducible refine Below.trans ?_ (Below.mono (by with_reducible assumption) ?hsz)); (case hsz => (first | omega | (simp; done) | (simp; omega) | (simp at *; omega))))))
      have e11 : w1.cell? ⟨w.heap.size + 1, 0, none⟩ = some (.slice A1 xs.length c1) := (hb1.cell (p := ⟨w.heap.size + 1, 0, none⟩) (by simp)).trans ((World.cell?_alloc_past _ _ _ (by simp)).trans (World.cell?_alloc_at _ _ _ _ (by simp)))
      have e21 : w1.cell? ⟨w.heap.size + 1 + 1, 0, none⟩ = some (.slice A2 ys.length c2) := (hb1.cell (p := ⟨w.heap.size + 1 + 1, 0, none⟩) (by simp)).trans (World.cell?_alloc_at _ _ _ _ (by simp))
      have hz1 : w.heap.size + 1 + 1 < w1.heap.size := by have := hb1.size; simp at this; omega
      clear bx0 hb1 hok
      obtain ⟨bs, d0, d1, -, -⟩ := id bx1
      go_wp2_with fail
      refine (signedFn_any w.heap.size _ _ ps xs b b1 _ (hp0.keep hB1) (hx0.keep hB1) d1).mono ?_
      rintro e w2 ⟨rfl, hb2⟩
      rw [ha]
      go_wp2
      go_ret2
      exact ⟨ret_ib (by rw [prodR, if_neg (by rw [Hb.out]; simp), Hb.out]), by (repeat (first | (with_reducible assumption) | (with_reducible exact Below.refl _ _) | ((with_reducible refine Below.alloc ?_ ?hsz _); (case hsz => (first | omega | (simp; done) | (simp; omega) | (simp at *; omega)))) | ((with_reducible refine Below.setCell ?_ ?hsz _); (case hsz => (first | omega | (simp; done) | (simp; omega) | (simp at *; omega)))) | (with_reducible refine Below.drew ?_) | (with_reducible refine below_drewN ?_ _) | ((with_reducible refine Below.trans ?_ (Below.mono (by with_reducible assumption) ?hsz)); (case hsz => (first | omega | (simp; done) | (simp; omega) | (simp at *; omega))))))⟩
    | true =>
      cases hbb : rowB ys (ps.length : Int) (-80) 80 with
      | false =>
        have Hb : Hid (prodB n ps xs ys = false) := Lib.hid (by simp [prodB, hbb])
        go_enter Try.func27, Try.ntmps27
        go_wp2_with fail
        refine (netOk_any _ _ ps b _ (hp0.keep (by (repeat (first | (with_reducible assumption) | (with_reducible exact Below.refl _ _) | ((with_reducible refine Below.alloc ?_ ?hsz _); (case hsz => (first | omega | (simp; done) | (simp; omega) | (simp at *; omega)))) | ((with_reducible refine Below.setCell ?_ ?hsz _); (case hsz => (first | omega | (simp; done) | (simp; omega) | (simp at *; omega)))) | (with_reducible refine Below.drew ?_) | (with_reducible refine below_drewN ?_ _) | ((with_reducible refine Below.trans ?_ (Below.mono (by with_reducible assumption) ?hsz)); (case hsz => (first | omega | (simp; done) | (simp; omega) | (simp at *; omega))))))))).mono ?_
        rintro e w1 ⟨rfl, hb1⟩
        rw [hok]
        have bx1 := bx0.keep hb1
        have hB1 : Below w.heap.size w w1 := by (repeat (first | (with_reducible assumption) | (with_reducible exact Below.refl _ _) | ((with_reducible refine Below.alloc ?_ ?hsz _); (case hsz => (first | omega | (simp; done) | (simp; omega) | (simp at *; omega)))) | ((with_reducible refine Below.setCell ?_ ?hsz _); (case hsz => (first | omega | (simp; done) | (simp; omega) | (simp at *; omega)))) | (with_reducible refine Below.drew ?_) | (with_reducible refine below_drewN ?_ _) | ((with_reducible refine Below.trans ?_ (Below.mono (by with_reducible assumption) ?hsz)); (case hsz => (first | omega | (simp; done) | (simp; omega) | (simp at *; omega))))))
        have e11 : w1.cell? ⟨w.heap.size + 1, 0, none⟩ = some (.slice A1 xs.length c1) := (hb1.cell (p := ⟨w.heap.size + 1, 0, none⟩) (by simp)).trans ((World.cell?_alloc_past _ _ _ (by simp)).trans (World.cell?_alloc_at _ _ _ _ (by simp)))
        have e21 : w1.cell? ⟨w.heap.size + 1 + 1, 0, none⟩ = some (.slice A2 ys.length c2) := (hb1.cell (p := ⟨w.heap.size + 1 + 1, 0, none⟩) (by simp)).trans (World.cell?_alloc_at _ _ _ _ (by simp))
        have hz1 : w.heap.size + 1 + 1 < w1.heap.size := by have := hb1.size; simp at this; omega
        clear bx0 hb1 hok
        obtain ⟨bs, d0, d1, -, -⟩ := id bx1
        go_wp2_with fail
        refine (signedFn_any w.heap.size _ _ ps xs b b1 _ (hp0.keep hB1) (hx0.keep hB1) d1).mono ?_
        rintro e w2 ⟨rfl, hb2⟩
        rw [ha]
        have bx2 := bx1.keep hb2
        have hB2 : Below w.heap.size w w2 := by (repeat (first | (with_reducible assumption) | (with_reducible exact Below.refl _ _) | ((with_reducible refine Below.alloc ?_ ?hsz _); (case hsz => (first | omega | (simp; done) | (simp; omega) | (simp at *; omega)))) | ((with_reducible refine Below.setCell ?_ ?hsz _); (case hsz => (first | omega | (simp; done) | (simp; omega) | (simp at *; omega)))) | (with_reducible refine Below.drew ?_) | (with_reducible refine below_drewN ?_ _) | ((with_reducible refine Below.trans ?_ (Below.mono (by with_reducible assumption) ?hsz)); (case hsz => (first | omega | (simp; done) | (simp; omega) | (simp at *; omega))))))
        have e12 := (hb2.cell (p := ⟨w.heap.size + 1, 0, none⟩) (by simp only []; omega)).trans e11
        have e22 := (hb2.cell (p := ⟨w.heap.size + 1 + 1, 0, none⟩) (by simp only []; omega)).trans e21
        have hz2 : w.heap.size + 1 + 1 < w2.heap.size := by have := hb2.size; omega
        clear bx1 hb2 d0 d1 bs e11 e21
        obtain ⟨bs, d0, d1, -, -⟩ := id bx2
        go_wp2_with fail
        refine (signedFn_any w.heap.size _ _ ps ys b b2 _ (hp0.keep hB2) (hy0.keep hB2) d1).mono ?_
        rintro e w3 ⟨rfl, hb3⟩
        rw [hbb]
        go_wp2
        go_ret2
        exact ⟨ret_ib (by rw [prodR, if_neg (by rw [Hb.out]; simp), Hb.out]), by (repeat (first | (with_reducible assumption) | (with_reducible exact Below.refl _ _) | ((with_reducible refine Below.alloc ?_ ?hsz _); (case hsz => (first | omega | (simp; done) | (simp; omega) | (simp at *; omega)))) | ((with_reducible refine Below.setCell ?_ ?hsz _); (case hsz => (first | omega | (simp; done) | (simp; omega) | (simp at *; omega)))) | (with_reducible refine Below.drew ?_) | (with_reducible refine below_drewN ?_ _) | ((with_reducible refine Below.trans ?_ (Below.mono (by with_reducible assumption) ?hsz)); (case hsz => (first | omega | (simp; done) | (simp; omega) | (simp at *; omega))))))⟩
      | true =>
        have Hb : Hid (prodB n ps xs ys = true) := Lib.hid (by simp [prodB, hok, ha, hbb])
        obtain ⟨x1, x2⟩ := rowB_parts ha
        obtain ⟨y1, y2⟩ := rowB_parts hbb
        have HXY := Lib.hid (And.intro x1 (And.intro x2 (And.intro y1 y2)))
        clear x1 x2 y1 y2
        go_enter Try.func27, Try.ntmps27
        go_wp2_with fail
        refine (netOk_any _ _ ps b _ (hp0.keep (by (repeat (first | (with_reducible assumption) | (with_reducible exact Below.refl _ _) | ((with_reducible refine Below.alloc ?_ ?hsz _); (case hsz => (first | omega | (simp; done) | (simp; omega) | (simp at *; omega)))) | ((with_reducible refine Below.setCell ?_ ?hsz _); (case hsz => (first | omega | (simp; done) | (simp; omega) | (simp at *; omega)))) | (with_reducible refine Below.drew ?_) | (with_reducible refine below_drewN ?_ _) | ((with_reducible refine Below.trans ?_ (Below.mono (by with_reducible assumption) ?hsz)); (case hsz => (first | omega | (simp; done) | (simp; omega) | (simp at *; omega))))))))).mono ?_
        rintro e w1 ⟨rfl, hb1⟩
        rw [hok]
        have bx1 := bx0.keep hb1
        have hB1 : Below w.heap.size w w1 := by (repeat (first | (with_reducible assumption) | (with_reducible exact Below.refl _ _) | ((with_reducible refine Below.alloc ?_ ?hsz _); (case hsz => (first | omega | (simp; done) | (simp; omega) | (simp at *; omega)))) | ((with_reducible refine Below.setCell ?_ ?hsz _); (case hsz => (first | omega | (simp; done) | (simp; omega) | (simp at *; omega)))) | (with_reducible refine Below.drew ?_) | (with_reducible refine below_drewN ?_ _) | ((with_reducible refine Below.trans ?_ (Below.mono (by with_reducible assumption) ?hsz)); (case hsz => (first | omega | (simp; done) | (simp; omega) | (simp at *; omega))))))
        have e11 : w1.cell? ⟨w.heap.size + 1, 0, none⟩ = some (.slice A1 xs.length c1) := (hb1.cell (p := ⟨w.heap.size + 1, 0, none⟩) (by simp)).trans ((World.cell?_alloc_past _ _ _ (by simp)).trans (World.cell?_alloc_at _ _ _ _ (by simp)))
        have e21 : w1.cell? ⟨w.heap.size + 1 + 1, 0, none⟩ = some (.slice A2 ys.length c2) := (hb1.cell (p := ⟨w.heap.size + 1 + 1, 0, none⟩) (by simp)).trans (World.cell?_alloc_at _ _ _ _ (by simp))
        have hz1 : w.heap.size + 1 + 1 < w1.heap.size := by have := hb1.size; simp at this; omega
        clear bx0 hb1 hok
        obtain ⟨bs, d0, d1, -, -⟩ := id bx1
        go_wp2_with fail
        refine (signedFn_any w.heap.size _ _ ps xs b b1 _ (hp0.keep hB1) (hx0.keep hB1) d1).mono ?_
        rintro e w2 ⟨rfl, hb2⟩
        rw [ha]
        have bx2 := bx1.keep hb2
        have hB2 : Below w.heap.size w w2 := by (repeat (first | (with_reducible assumption) | (with_reducible exact Below.refl _ _) | ((with_reducible refine Below.alloc ?_ ?hsz _); (case hsz => (first | omega | (simp; done) | (simp; omega) | (simp at *; omega)))) | ((with_reducible refine Below.setCell ?_ ?hsz _); (case hsz => (first | omega | (simp; done) | (simp; omega) | (simp at *; omega)))) | (with_reducible refine Below.drew ?_) | (with_reducible refine below_drewN ?_ _) | ((with_reducible refine Below.trans ?_ (Below.mono (by with_reducible assumption) ?hsz)); (case hsz => (first | omega | (simp; done) | (simp; omega) | (simp at *; omega))))))
        have e12 := (hb2.cell (p := ⟨w.heap.size + 1, 0, none⟩) (by simp only []; omega)).trans e11
        have e22 := (hb2.cell (p := ⟨w.heap.size + 1 + 1, 0, none⟩) (by simp only []; omega)).trans e21
        have hz2 : w.heap.size + 1 + 1 < w2.heap.size := by have := hb2.size; omega
        clear bx1 hb2 d0 d1 bs e11 e21
        obtain ⟨bs, d0, d1, -, -⟩ := id bx2
        go_wp2_with fail
        refine (signedFn_any w.heap.size _ _ ps ys b b2 _ (hp0.keep hB2) (hy0.keep hB2) d1).mono ?_
        rintro e w3 ⟨rfl, hb3⟩
        rw [hbb]
        have bx3 := bx2.keep hb3
        have hB3 : Below w.heap.size w w3 := by (repeat (first | (with_reducible assumption) | (with_reducible exact Below.refl _ _) | ((with_reducible refine Below.alloc ?_ ?hsz _); (case hsz => (first | omega | (simp; done) | (simp; omega) | (simp at *; omega)))) | ((with_reducible refine Below.setCell ?_ ?hsz _); (case hsz => (first | omega | (simp; done) | (simp; omega) | (simp at *; omega)))) | (with_reducible refine Below.drew ?_) | (with_reducible refine below_drewN ?_ _) | ((with_reducible refine Below.trans ?_ (Below.mono (by with_reducible assumption) ?hsz)); (case hsz => (first | omega | (simp; done) | (simp; omega) | (simp at *; omega))))))
        have e13 := (hb3.cell (p := ⟨w.heap.size + 1, 0, none⟩) (by simp only []; omega)).trans e12
        have e23 := (hb3.cell (p := ⟨w.heap.size + 1 + 1, 0, none⟩) (by simp only []; omega)).trans e22
        have hz3 : w.heap.size + 1 + 1 < w3.heap.size := by have := hb3.size; omega
        clear bx2 hb3 d0 d1 bs e12 e22
        obtain ⟨bs, d0, d1, -, -⟩ := id bx3
        go_wp2_with fail
        refine (prodSum_any (w.heap.size + 1) (w.heap.size + 1 + 1) _ _ _ ps xs ys b b1 b2 _ (hp0.keep hB3) (hx0.keep hB3) (hy0.keep hB3) hl7 (by have := HXY.out.1; omega) (by have := HXY.out.2.2.1; omega) HXY.out.2.1 HXY.out.2.2.2 (by omega) hz3 e13 e23).mono ?_
        rintro e w4 ⟨rfl, hb4⟩
        go_wp2
        go_ret2
        exact ⟨ret_ib (by rw [prodR, if_pos Hb.out, Hb.out]), by (repeat (first | (with_reducible assumption) | (with_reducible exact Below.refl _ _) | ((with_reducible refine Below.alloc ?_ ?hsz _); (case hsz => (first | omega | (simp; done) | (simp; omega) | (simp at *; omega)))) | ((with_reducible refine Below.setCell ?_ ?hsz _); (case hsz => (first | omega | (simp; done) | (simp; omega) | (simp at *; omega)))) | (with_reducible refine Below.drew ?_) | (with_reducible refine below_drewN ?_ _) | ((with_reducible refine Below.trans ?_ (Below.mono (by with_reducible assumption) ?hsz)); (case hsz => (first | omega | (simp; done) | (simp; omega) | (simp at *; omega))))))⟩

end Go.Proofs.Ytmeicnhlehdboaa
