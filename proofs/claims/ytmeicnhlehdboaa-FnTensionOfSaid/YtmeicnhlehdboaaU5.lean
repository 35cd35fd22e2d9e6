/- Contracts of the functions of chapter 7 in the program: the signs of rings. -/
import Derived.Test.YtmeicnhlehdboaaU4
import Derived.Test.YtmeicnhlehdboaaF1
namespace Go.Proofs.Ytmeicnhlehdboaa
open Go.RowKit

/-- what the operations yield -/
def rsV (N : Nat) (ps : List Pp) (nb g m c k tt fr B : Nat) (tv : Value) : Nat → Value → World → Prop
  | 0, x, _ => x = .pointer (some ⟨nb, 1, none⟩)
  | 1, x, _ => x = (.slice (some ⟨g, 0, none⟩) m c)
  | 2, x, _ => x = tv
  | 3, x, _ => x = .pointer (some ⟨nb, 1, none⟩)
  | 4, x, _ => x = (.slice (some ⟨g, 0, none⟩) m c)
  | 5, x, _ => x = .int .i64 (k : Int)
  | 6, x, _ => x = .pointer (some ⟨g, k * 5, none⟩)
  | 7, x, _ => x = .pointer (some ⟨g, k * 5 + 1, none⟩)
  | 8, x, _ => x = .int .i64 (tt : Int)
  | 9, x, _ => x = .pointer (some ⟨nb, 1, none⟩)
  | 10, x, _ => x = (.slice (some ⟨g, 0, none⟩) m c)
  | 11, x, _ => x = .int .i64 (k : Int)
  | 12, x, _ => x = .pointer (some ⟨g, k * 5, none⟩)
  | 13, x, _ => x = .pointer (some ⟨g, k * 5, none⟩)
  | 14, x, _ => x = .int .i64 (fr : Int)
  | 15, x, w => ∃ l : List Nat, Ints w B x (ofS l) ∧ chain ps (tt : Int) (fr : Int) l ∧ (∀ s ∈ l, s < 2 * ps.length ∧ treeF N ps (s / 2) = true) ∧ l.length ≤ 5
  | 16, x, w => ∃ l : List Nat, Ints w B x (ofS l) ∧ chain ps (tt : Int) (fr : Int) l ∧ (∀ s ∈ l, s < 2 * ps.length ∧ treeF N ps (s / 2) = true) ∧ l.length ≤ 5
  | _, _, _ => True
theorem rsV_keep {N : Nat} {ps : List Pp} {nb g m c k tt fr B : Nat} {tv x : Value} {k' : Nat} {w w' : World} (hb : Below w.heap.size w w') (h : rsV N ps nb g m c k tt fr B tv k' x w) : rsV N ps nb g m c k tt fr B tv k' x w' := by
  revert h
  unfold rsV
  split <;> intro h <;> first | exact h | (obtain ⟨l, h1, h2⟩ := h; exact ⟨l, h1.keep hb, h2⟩)

set_option maxHeartbeats 4000000 in
set_option maxRecDepth 20000 in
theorem ringSigns_any (n at' : Int) (v : Value) (ps : List Pp) (b : Nat) (w : World) (hp : Pipes w b v ps) :
    Calls Try.prog 16 #[.agg #[.int .i64 n, v], .int .i64 at'] w fun e w' => ∃ r, e = .returned (.tuple #[r, .bool (signB n ps at')]) ∧ Ints w' w.heap.size r (signsR n ps at') ∧ Below w.heap.size w w' := by
  have hp0 := hp
  obtain ⟨A, m0, rfl, hc1, hc2, hsm, hcell⟩ := hp.form
  unfold maxLen at hc2
  have bx0 := Box2.new w (.int .i64 n) (.slice A ps.length m0) 25
  cases hok : netOkB n ps with
  | false =>
    have Hb : Hid (signB n ps at' = false) := Lib.hid (by simp [signB, hok])
    go_enter Try.func16, Try.ntmps16
    go_wp2_with fail
    refine (netOk_any _ _ ps b _ (hp0.keep (by (repeat (first | (with_reducible assumption) | (with_reducible exact Below.refl _ _) | ((with_reducible refine Below.alloc ?_ ?hsz _); (case hsz => (first | omega | (simp; done) | (simp; omega) | (simp at *; omega)))) | ((with_reducible refine Below.setCell ?_ ?hsz _); (case hsz => (first | omega | (simp; done) | (simp; omega) | (simp at *; omega)))) | (with_reducible refine Below.drew ?_) | (with_reducible refine below_drewN ?_ _) | ((with_reducible refine Below.trans ?_ (Below.mono (by with_reducible assumption) ?hsz)); (case hsz => (first | omega | (simp; done) | (simp; omega) | (simp at *; omega))))))))).mono ?_
    rintro e w1 ⟨rfl, hb1⟩
    rw [hok]
    go_wp2
    go_ret2
    exact ⟨_, ret_vb Hb.out.symm, by rw [signsR_no Hb.out]; exact Ints_nil _ _, by (repeat (first | (with_reducible assumption) | (with_reducible exact Below.refl _ _) | ((with_reducible refine Below.alloc ?_ ?hsz _); (case hsz => (first | omega | (simp; done) | (simp; omega) | (simp at *; omega)))) | ((with_reducible refine Below.setCell ?_ ?hsz _); (case hsz => (first | omega | (simp; done) | (simp; omega) | (simp at *; omega)))) | (with_reducible refine Below.drew ?_) | (with_reducible refine below_drewN ?_ _) | ((with_reducible refine Below.trans ?_ (Below.mono (by with_reducible assumption) ?hsz)); (case hsz => (first | omega | (simp; done) | (simp; omega) | (simp at *; omega))))))⟩
  | true =>
    obtain ⟨n2, n5, hl7, -⟩ := netOk_parts hok
    cases hin : withinB at' 0 ((ps.length : Int) - 1) with
    | false =>
      have Hb : Hid (signB n ps at' = false) := Lib.hid (by simp [signB, hin])
      go_enter Try.func16, Try.ntmps16
      go_wp2_with fail
      refine (netOk_any _ _ ps b _ (hp0.keep (by (repeat (first | (with_reducible assumption) | (with_reducible exact Below.refl _ _) | ((with_reducible refine Below.alloc ?_ ?hsz _); (case hsz => (first | omega | (simp; done) | (simp; omega) | (simp at *; omega)))) | ((with_reducible refine Below.setCell ?_ ?hsz _); (case hsz => (first | omega | (simp; done) | (simp; omega) | (simp at *; omega)))) | (with_reducible refine Below.drew ?_) | (with_reducible refine below_drewN ?_ _) | ((with_reducible refine Below.trans ?_ (Below.mono (by with_reducible assumption) ?hsz)); (case hsz => (first | omega | (simp; done) | (simp; omega) | (simp at *; omega))))))))).mono ?_
      rintro e w1 ⟨rfl, hb1⟩
      have bx1 := bx0.keep hb1
      have hB1 : Below w.heap.size w w1 := by (repeat (first | (with_reducible assumption) | (with_reducible exact Below.refl _ _) | ((with_reducible refine Below.alloc ?_ ?hsz _); (case hsz => (first | omega | (simp; done) | (simp; omega) | (simp at *; omega)))) | ((with_reducible refine Below.setCell ?_ ?hsz _); (case hsz => (first | omega | (simp; done) | (simp; omega) | (simp at *; omega)))) | (with_reducible refine Below.drew ?_) | (with_reducible refine below_drewN ?_ _) | ((with_reducible refine Below.trans ?_ (Below.mono (by with_reducible assumption) ?hsz)); (case hsz => (first | omega | (simp; done) | (simp; omega) | (simp at *; omega))))))
      rw [hok]
      clear bx0 hb1
      obtain ⟨bs, d0, d1, -, -⟩ := id bx1
      go_wp2_with fail
      refine (within_any at' 0 ((ps.length : Int) - 1) _).mono ?_
      rintro e w2 ⟨rfl, rfl⟩
      rw [hin]
      go_wp2
      go_ret2
      exact ⟨_, ret_vb Hb.out.symm, by rw [signsR_no Hb.out]; exact Ints_nil _ _, by (repeat (first | (with_reducible assumption) | (with_reducible exact Below.refl _ _) | ((with_reducible refine Below.alloc ?_ ?hsz _); (case hsz => (first | omega | (simp; done) | (simp; omega) | (simp at *; omega)))) | ((with_reducible refine Below.setCell ?_ ?hsz _); (case hsz => (first | omega | (simp; done) | (simp; omega) | (simp at *; omega)))) | (with_reducible refine Below.drew ?_) | (with_reducible refine below_drewN ?_ _) | ((with_reducible refine Below.trans ?_ (Below.mono (by with_reducible assumption) ?hsz)); (case hsz => (first | omega | (simp; done) | (simp; omega) | (simp at *; omega))))))⟩
    | true =>
      have hin' := hin
      simp only [withinB, Bool.and_eq_true, decide_eq_true_eq] at hin'
      obtain ⟨k, rfl⟩ := Int.eq_ofNat_of_zero_le hin'.1
      obtain ⟨N, rfl⟩ := Int.eq_ofNat_of_zero_le (show 0 ≤ n by omega)
      have hk : k < ps.length := by omega
      have HK := Lib.hid hok
      have HT := Lib.hid (tree_in (n := N) hk)
      have HE := Lib.hid (show ∀ p ∈ ps, endsIn (N : Int) p from net_endsIn hok)
      go_enter Try.func16, Try.ntmps16
      go_wp2_with fail
      refine (netOk_any _ _ ps b _ (hp0.keep (by (repeat (first | (with_reducible assumption) | (with_reducible exact Below.refl _ _) | ((with_reducible refine Below.alloc ?_ ?hsz _); (case hsz => (first | omega | (simp; done) | (simp; omega) | (simp at *; omega)))) | ((with_reducible refine Below.setCell ?_ ?hsz _); (case hsz => (first | omega | (simp; done) | (simp; omega) | (simp at *; omega)))) | (with_reducible refine Below.drew ?_) | (with_reducible refine below_drewN ?_ _) | ((with_reducible refine Below.trans ?_ (Below.mono (by with_reducible assumption) ?hsz)); (case hsz => (first | omega | (simp; done) | (simp; omega) | (simp at *; omega))))))))).mono ?_
      rintro e w1 ⟨rfl, hb1⟩
      have bx1 := bx0.keep hb1
      have hB1 : Below w.heap.size w w1 := by (repeat (first | (with_reducible assumption) | (with_reducible exact Below.refl _ _) | ((with_reducible refine Below.alloc ?_ ?hsz _); (case hsz => (first | omega | (simp; done) | (simp; omega) | (simp at *; omega)))) | ((with_reducible refine Below.setCell ?_ ?hsz _); (case hsz => (first | omega | (simp; done) | (simp; omega) | (simp at *; omega)))) | (with_reducible refine Below.drew ?_) | (with_reducible refine below_drewN ?_ _) | ((with_reducible refine Below.trans ?_ (Below.mono (by with_reducible assumption) ?hsz)); (case hsz => (first | omega | (simp; done) | (simp; omega) | (simp at *; omega))))))
      rw [hok]
      clear bx0 hb1
      obtain ⟨bs, d0, d1, -, -⟩ := id bx1
      go_wp2_with fail
      refine (within_any (k : Int) 0 ((ps.length : Int) - 1) _).mono ?_
      rintro e w2 ⟨rfl, rfl⟩
      rw [hin]
      clear hin hin' hok
      go_wp2_with fail
      refine (grownTree_any N _ ps b _ (hp0.keep hB1) HK.out).mono ?_
      rintro e w2 ⟨rt, rl, rfl, ht, -, hb2⟩
      have bx2 := bx1.keep hb2
      have hB2 : Below w.heap.size w w2 := hB1.trans (hb2.mono hB1.size)
      have hz1 := hB1.size
      have hz2 := hb2.size
      clear bx1 hb2 d0 d1 bs
      obtain ⟨bs, d0, d1, -, -⟩ := id bx2
      have ht0 := ht
      obtain ⟨At, ct, rfl, -, -, -, -⟩ := ht.form
      go_wp2_with fail
      refine (containsInts7_any (k : Int) _ (treeL N ps) w1.heap.size _ ht0).mono ?_
      rintro e w3 ⟨rfl, hb3⟩
      rw [HT.out]
      have bx3 := bx2.keep hb3
      have hB3 : Below w.heap.size w w3 := hB2.trans (hb3.mono hB2.size)
      have ht3 := ht0.keep hb3
      have hz3 := hb3.size
      clear bx2 hb3 d0 d1 bs ht ht0 hB2
      obtain ⟨bs, d0, d1, -, -⟩ := id bx3
      cases htk : treeF N ps k with
      | true =>
        have Hb : Hid (signB (N : Int) ps (k : Int) = false) := Lib.hid (by simp [signB, htk])
        go_wp2
        go_ret2
        exact ⟨_, ret_vb Hb.out.symm, by rw [signsR_no Hb.out]; exact Ints_nil _ _, by (repeat (first | (with_reducible assumption) | (with_reducible exact Below.refl _ _) | ((with_reducible refine Below.alloc ?_ ?hsz _); (case hsz => (first | omega | (simp; done) | (simp; omega) | (simp at *; omega)))) | ((with_reducible refine Below.setCell ?_ ?hsz _); (case hsz => (first | omega | (simp; done) | (simp; omega) | (simp at *; omega)))) | (with_reducible refine Below.drew ?_) | (with_reducible refine below_drewN ?_ _) | ((with_reducible refine Below.trans ?_ (Below.mono (by with_reducible assumption) ?hsz)); (case hsz => (first | omega | (simp; done) | (simp; omega) | (simp at *; omega))))))⟩
      | false =>
        obtain ⟨a0, a1, b0, b1, -⟩ := HE.out ps[k] (List.getElem_mem hk)
        obtain ⟨fr, hfr⟩ : ∃ fr : Nat, ps[k].fr = (fr : Int) := ⟨ps[k].fr.toNat, by omega⟩
        obtain ⟨tt, hto⟩ : ∃ tt : Nat, ps[k].to = (tt : Int) := ⟨ps[k].to.toNat, by omega⟩
        have hgk : ps.getD k zeroPp = ps[k] := by simp [List.getD_eq_getElem?_getD, hk]
        have HJ : Hid (lab (growL N ps ps.length) (tt : Int) = lab (growL N ps ps.length) (fr : Int)) := Lib.hid (by
          have := lab_joined (k := ps.length) HE.out hk (Nat.le_refl _)
          rw [hgk, hfr, hto] at this
          exact this.symm)
        obtain ⟨g, rfl, hg1, hg2, qfr, qto, -, -, -⟩ := hcell w3 hB3 k hk
        have hgt : Hid (ps.getD k zeroPp = ps[k] ∧ ps[k].fr = (fr : Int) ∧ ps[k].to = (tt : Int)) := Lib.hid ⟨hgk, hfr, hto⟩
        rw [hfr] at qfr a1
        rw [hto] at qto b1
        have hfN : fr < N := by omega
        have htN : tt < N := by omega
        have hp3 := hp0.keep hB3
        have hg3 : g < w3.heap.size := by omega
        have HT3 := Lib.hid htk
        clear a0 a1 b0 b1 hfr hto hgk htk
        have hkL : (k : Int) < (ps.length : Int) := by omega
        go_wp2_with fail
        have hC0 : Below w3.heap.size w3 { w3 with drawn := w3.drawn + 1 } := ⟨rfl, rfl, rfl, Nat.le_refl _, fun _ _ => rfl⟩
        refine wp_region_flow 17 none [(0, 30), (1, 31), (2, 32), (3, 33), (4, 34), (5, 35), (6, 36), (7, 37), (8, 38), (9, 39), (10, 40), (11, 41), (12, 42), (13, 43), (14, 44), (15, 45), (16, 8)] (fun j x _ wx => rsV N ps w.heap.size g ps.length m0 k tt fr w3.heap.size (.slice At (treeL N ps).length ct) j x wx) (fun _ wa wb => Below wa.heap.size wa wb) (fun _ wx => Below w3.heap.size w3 wx) (by kernel_rfl) (by kernel_rfl) rfl hC0 ?_ ?_ ?_ ?_
        · exact fun _ k _ _ _ x _ wa wb hR h => rsV_keep (k' := k) hR h
        · exact fun _ _ _ _ _ _ _ h => h
        · simp only [eachOp, fillF, List.setIfInBounds_toArray, List.set_cons_succ, List.set_cons_zero]
          refine ⟨?_, ?_, ?_, ?_, ?_, ?_, ?_, ?_, ?_, ?_, ?_, ?_, ?_, ?_, ?_, ?_, ?_, trivial⟩ <;> intro u f wx hC hd <;> (try simp [allV, useOf, Region.binds] at hd)
          · go_wp2
            exact ⟨_, rfl, rfl, Below.refl _ _, hC⟩
          · rw [show u 0 = _ from (by first | exact hd | exact hd.1 | exact hd.2 | exact hd.2.1 | exact hd.2.2 | exact hd.2.2.1 | exact hd.2.2.2 | exact hd.2.2.2.1 | exact hd.2.2.2.2)]
            have e1 := (bel_cell hC (by omega)).trans d1
            go_wp2
            exact ⟨_, rfl, rfl, Below.refl _ _, hC⟩
          · go_wp2
            exact ⟨_, rfl, rfl, Below.refl _ _, hC⟩
          · go_wp2
            exact ⟨_, rfl, rfl, Below.refl _ _, hC⟩
          · rw [show u 3 = _ from (by first | exact hd | exact hd.1 | exact hd.2 | exact hd.2.1 | exact hd.2.2 | exact hd.2.2.1 | exact hd.2.2.2 | exact hd.2.2.2.1 | exact hd.2.2.2.2)]
            have e1 := (bel_cell hC (by omega)).trans d1
            go_wp2
            exact ⟨_, rfl, rfl, Below.refl _ _, hC⟩
          · go_wp2
            exact ⟨_, rfl, rfl, Below.refl _ _, hC⟩
          · rw [show u 4 = _ from (by first | exact hd | exact hd.1 | exact hd.2 | exact hd.2.1 | exact hd.2.2 | exact hd.2.2.1 | exact hd.2.2.2 | exact hd.2.2.2.1 | exact hd.2.2.2.2), show u 5 = _ from (by first | exact hd | exact hd.1 | exact hd.2 | exact hd.2.1 | exact hd.2.2 | exact hd.2.2.1 | exact hd.2.2.2 | exact hd.2.2.2.1 | exact hd.2.2.2.2)]
            go_wp2
            exact ⟨_, rfl, rfl, Below.refl _ _, hC⟩
          · rw [show u 6 = _ from (by first | exact hd | exact hd.1 | exact hd.2 | exact hd.2.1 | exact hd.2.2 | exact hd.2.2.1 | exact hd.2.2.2 | exact hd.2.2.2.1 | exact hd.2.2.2.2)]
            go_wp2
            exact ⟨_, rfl, rfl, Below.refl _ _, hC⟩
          · rw [show u 7 = _ from (by first | exact hd | exact hd.1 | exact hd.2 | exact hd.2.1 | exact hd.2.2 | exact hd.2.2.1 | exact hd.2.2.2 | exact hd.2.2.2.1 | exact hd.2.2.2.2)]
            have e1 := (bel_cell hC (by omega)).trans qto
            go_wp2
            exact ⟨_, rfl, rfl, Below.refl _ _, hC⟩
          · go_wp2
            exact ⟨_, rfl, rfl, Below.refl _ _, hC⟩
          · rw [show u 9 = _ from (by first | exact hd | exact hd.1 | exact hd.2 | exact hd.2.1 | exact hd.2.2 | exact hd.2.2.1 | exact hd.2.2.2 | exact hd.2.2.2.1 | exact hd.2.2.2.2)]
            have e1 := (bel_cell hC (by omega)).trans d1
            go_wp2
            exact ⟨_, rfl, rfl, Below.refl _ _, hC⟩
          · go_wp2
            exact ⟨_, rfl, rfl, Below.refl _ _, hC⟩
          · rw [show u 10 = _ from (by first | exact hd | exact hd.1 | exact hd.2 | exact hd.2.1 | exact hd.2.2 | exact hd.2.2.1 | exact hd.2.2.2 | exact hd.2.2.2.1 | exact hd.2.2.2.2), show u 11 = _ from (by first | exact hd | exact hd.1 | exact hd.2 | exact hd.2.1 | exact hd.2.2 | exact hd.2.2.1 | exact hd.2.2.2 | exact hd.2.2.2.1 | exact hd.2.2.2.2)]
            go_wp2
            exact ⟨_, rfl, rfl, Below.refl _ _, hC⟩
          · rw [show u 12 = _ from (by first | exact hd | exact hd.1 | exact hd.2 | exact hd.2.1 | exact hd.2.2 | exact hd.2.2.1 | exact hd.2.2.2 | exact hd.2.2.2.1 | exact hd.2.2.2.2)]
            go_wp2
            exact ⟨_, rfl, rfl, Below.refl _ _, hC⟩
          · rw [show u 13 = _ from (by first | exact hd | exact hd.1 | exact hd.2 | exact hd.2.1 | exact hd.2.2 | exact hd.2.2.1 | exact hd.2.2.2 | exact hd.2.2.2.1 | exact hd.2.2.2.2)]
            have e1 := (bel_cell hC (by omega)).trans qfr
            go_wp2
            exact ⟨_, rfl, rfl, Below.refl _ _, hC⟩
          · rw [show u 1 = _ from (by first | exact hd | exact hd.1 | exact hd.2 | exact hd.2.1 | exact hd.2.2 | exact hd.2.2.1 | exact hd.2.2.2 | exact hd.2.2.2.1 | exact hd.2.2.2.2), show u 2 = _ from (by first | exact hd | exact hd.1 | exact hd.2 | exact hd.2.1 | exact hd.2.2 | exact hd.2.2.1 | exact hd.2.2.2 | exact hd.2.2.2.1 | exact hd.2.2.2.2), show u 8 = _ from (by first | exact hd | exact hd.1 | exact hd.2 | exact hd.2.1 | exact hd.2.2 | exact hd.2.2.1 | exact hd.2.2.2 | exact hd.2.2.2.1 | exact hd.2.2.2.2), show u 14 = _ from (by first | exact hd | exact hd.1 | exact hd.2 | exact hd.2.1 | exact hd.2.2 | exact hd.2.2.1 | exact hd.2.2.2 | exact hd.2.2.2.1 | exact hd.2.2.2.2)]
            go_wp2_with fail
            refine (treeWalk_any N tt fr _  (.slice At (treeL N ps).length ct) ps b w1.heap.size wx (hp3.keep hC) (ht3.keep hC) HK.out htN hfN HJ.out).mono ?_
            rintro e wy ⟨r, l, rfl, hr, hc, hl, hl5, hby⟩
            go_wp2
            exact ⟨_, rfl, ⟨l, hr.mono hC.size, hc, hl, hl5⟩, hby, hC.trans (hby.mono hC.size)⟩
          · obtain ⟨l, hl⟩ := (show ∃ l : List Nat, Ints wx w3.heap.size (u 15) (ofS l) ∧ chain ps (tt : Int) (fr : Int) l ∧ (∀ s ∈ l, s < 2 * ps.length ∧ treeF N ps (s / 2) = true) ∧ l.length ≤ 5 from hd)
            go_wp2
            exact ⟨_, rfl, ⟨l, hl⟩, Below.refl _ _, hC⟩
        · intro u f wx hC hfin
          simp only [fillEnd, fillF, Act.put, List.setIfInBounds_toArray, List.set_cons_succ, List.set_cons_zero]
          obtain ⟨l, hl⟩ := (show ∃ l : List Nat, Ints wx w3.heap.size (u 16) (ofS l) ∧ chain ps (tt : Int) (fr : Int) l ∧ (∀ s ∈ l, s < 2 * ps.length ∧ treeF N ps (s / 2) = true) ∧ l.length ≤ 5 from hfin 16 (by decide) (by decide))
          obtain ⟨hl1, hl2, hl3, hl4⟩ := hl
          obtain ⟨Al, cl, ev, -, -, -, -⟩ := hl1.form
          obtain ⟨L16, hL16⟩ : ∃ L16, (ofS l).length = L16 := ⟨_, rfl⟩
          rw [hL16] at ev
          rw [ev] at hl1 ⊢
          have hBx : Below w.heap.size w wx := hB3.trans (hC.mono hB3.size)
          have bx4 := bx3.keep hC
          have hzx := hBx.size
          have Hb : Hid (signB (N : Int) ps (k : Int) = true) := Lib.hid (by
            have h1 := HT3.out
            simp only [signB, withinB, Bool.and_eq_true, decide_eq_true_eq, Int.toNat_natCast]
            exact ⟨⟨HK.out, by omega, by omega⟩, by rw [h1]; rfl⟩)
          have HS : Hid ((pushL 1 (zeros ps) l).set k 1 = signsR (N : Int) ps (k : Int)) := Lib.hid (signsR_is Hb.out (by
            rw [Int.toNat_natCast, Int.toNat_natCast]
            refine walk_ring HK.out hk HT3.out ?_ fun s hs => (hl3 s hs).2
            rw [hgt.out.1, hgt.out.2.1, hgt.out.2.2]
            exact hl2))
          have HL := Lib.hid hl3
          have hz0 : ∀ j, -(0 : Int) ≤ (zeros ps).getD j 0 ∧ (zeros ps).getD j 0 ≤ 0 := fun j => by rw [zeros_getD]; omega
          have HBD : Hid (∀ k j, -100 ≤ (pushL 1 (zeros ps) (l.take k)).getD j 0 ∧ (pushL 1 (zeros ps) (l.take k)).getD j 0 ≤ 100) := Lib.hid fun k j => by
            have h1 := pushL_bd7 (xs := zeros ps) (m := 0) (l := l.take k) hz0 j
            have h2 : (l.take k).length ≤ 5 := by rw [List.length_take]; omega
            omega
          have hmade := Ints_made wx (n := ps.length) (b := wx.heap.size) (g := wx.heap.size) (Nat.le_refl _) (by omega) rfl
          have hmk := fun W => run_make_ints (n := ps.length) (by omega) W
          have hl5 := hl1.keep ((Below.refl wx.heap.size wx).alloc (Nat.le_refl _) (.cells (madeCells #[.int .i64 0] ps.length) 3))
          clear hz0 hl2 hl3 hl4 ev hL16 hl1 d0 d1 bs hfin
          obtain ⟨bs, d0, d1, -, -⟩ := id bx4
          go_wp2_with fail
          refine (pushedAlong7_any _ _ l ps (zeros ps) wx.heap.size w3.heap.size 1 _ hl5 hmade (zeros_len ps) hl7 (by rw [zeros_len]; omega) (fun s hs => (HL.out s hs).1) HBD.out (by omega)).mono ?_
          rintro e w6 ⟨r6, rfl, hr6, hb6⟩
          have hlen6 : (pushL 1 (zeros ps) l).length = ps.length := by rw [pushL_len, zeros_len]
          obtain ⟨g6, c6, hv6, hR6⟩ := hr6.row (by rw [hlen6]; omega)
          rw [hlen6] at hv6 hR6
          subst hv6
          obtain ⟨y0, z0⟩ := hR6.at' k hk
          have hg6 := hR6.lt.2
          have hcp := hR6.capd
          unfold maxLen at hcp
          have HF := Lib.hid (hR6.set k 1).ints
          have hB6 : Below w.heap.size w w6 := by (repeat (first | (with_reducible assumption) | (with_reducible exact Below.refl _ _) | ((with_reducible refine Below.alloc ?_ ?hsz _); (case hsz => (first | omega | (simp; done) | (simp; omega) | (simp at *; omega)))) | ((with_reducible refine Below.setCell ?_ ?hsz _); (case hsz => (first | omega | (simp; done) | (simp; omega) | (simp at *; omega)))) | (with_reducible refine Below.drew ?_) | (with_reducible refine below_drewN ?_ _) | ((with_reducible refine Below.trans ?_ (Below.mono (by with_reducible assumption) ?hsz)); (case hsz => (first | omega | (simp; done) | (simp; omega) | (simp at *; omega))))))
          have hg6l := hR6.lt.1
          rw [World.size_alloc] at hg6l
          clear hr6 hR6 hlen6 hb6
          go_wp2
          go_ret2
          exact ⟨_, ret_vb Hb.out.symm, by rw [← HS.out]; exact HF.out.mono (by simp; omega), by (repeat (first | (with_reducible assumption) | (with_reducible exact Below.refl _ _) | ((with_reducible refine Below.alloc ?_ ?hsz _); (case hsz => (first | omega | (simp; done) | (simp; omega) | (simp at *; omega)))) | ((with_reducible refine Below.setCell ?_ ?hsz _); (case hsz => (first | omega | (simp; done) | (simp; omega) | (simp at *; omega)))) | (with_reducible refine Below.drew ?_) | (with_reducible refine below_drewN ?_ _) | ((with_reducible refine Below.trans ?_ (Below.mono (by with_reducible assumption) ?hsz)); (case hsz => (first | omega | (simp; done) | (simp; omega) | (simp at *; omega))))))⟩

end Go.Proofs.Ytmeicnhlehdboaa
