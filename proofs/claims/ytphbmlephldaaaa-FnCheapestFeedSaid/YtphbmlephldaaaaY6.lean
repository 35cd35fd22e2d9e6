/- Contracts of the functions of chapter 10 in the program: FeedingOf, CheapestFeed. -/
import Derived.Test.YtphbmlephldaaaaGN25
import Derived.Test.YtphbmlephldaaaaGN3
import Derived.Test.YtphbmlephldaaaaGN23
import Derived.Test.YtphbmlephldaaaaGN36
namespace Go.Proofs.Ytphbmlephldaaaa
open Go.RowKit

/-- what the operations of FeedingOf's call yield -/
def fdV (B z : Nat) (n : Int) (v o : Value) (ps : List Pp) (nd : List Int) (M : Nat) : Nat → Value → World → Prop
  | 0, x, _ => x = .agg #[.int .i64 n, v]
  | 1, x, _ => x = .pointer (some ⟨z, 1, none⟩)
  | 2, x, _ => x = v
  | 3, x, _ => x = .int .i64 M
  | 4, x, wx => Ints wx B x (List.replicate M 0)
  | 5, x, _ => x = o
  | 6, x, wx => ∃ r, x = .tuple #[r, .bool (feedB n ps nd)] ∧ Ints wx B r (feedL n ps nd)
  | 7, x, wx => Ints wx B x (feedL n ps nd)
  | 8, x, _ => x = .bool (feedB n ps nd)
  | 9, x, wx => Ints wx B x (feedL n ps nd)
  | 10, x, _ => x = .bool (feedB n ps nd)
  | _, _, _ => True

set_option maxHeartbeats 4000000 in
set_option maxRecDepth 20000 in
theorem feedingOf_any (n : Int) (v o : Value) (ps : List Pp) (nd : List Int) (b b2 : Nat) (w : World) (hp : Pipes w b v ps) (ho : Ints w b2 o nd) :
    Calls Try.prog 43 #[.agg #[.int .i64 n, v], o] w fun e w' => ∃ r, e = .returned (.tuple #[r, .bool (feedB n ps nd)]) ∧ Ints w' w.heap.size r (feedL n ps nd) ∧ Below w.heap.size w w' := by
  have hp0 := hp
  have ho0 := ho
  obtain ⟨A, c, rfl, hcp1, hcp2, -, -⟩ := hp.form
  obtain ⟨A2, c2, rfl, -, -, -, -⟩ := ho.form
  obtain ⟨mo, hmo⟩ : ∃ m, nd.length = m := ⟨_, rfl⟩
  rw [hmo] at ho0 ⊢
  clear hmo ho
  unfold maxLen at hcp2
  have bx0 := Box2.new w (.int .i64 n) (.slice A ps.length c) 25
  go_enter Try.func43, Try.ntmps43
  go_wp2_with fail
  with_reducible refine (needsOk_any n _ _ ps nd b b2 _ (hp0.keep (by (repeat (first | (with_reducible assumption) | (with_reducible exact Below.refl _ _) | ((with_reducible refine Below.alloc ?_ ?hsz _); (case hsz => (first | omega | (simp; done) | (simp; omega) | (simp at *; omega)))) | ((with_reducible refine Below.setCell ?_ ?hsz _); (case hsz => (first | omega | (simp; done) | (simp; omega) | (simp at *; omega)))) | (with_reducible refine Below.drew ?_) | (with_reducible refine below_drewN ?_ _) | ((with_reducible refine Below.trans ?_ (Below.mono (by with_reducible assumption) ?hsz)); (case hsz => (first | omega | (simp; done) | (simp; omega) | (simp at *; omega)))))))) (ho0.keep (by (repeat (first | (with_reducible assumption) | (with_reducible exact Below.refl _ _) | ((with_reducible refine Below.alloc ?_ ?hsz _); (case hsz => (first | omega | (simp; done) | (simp; omega) | (simp at *; omega)))) | ((with_reducible refine Below.setCell ?_ ?hsz _); (case hsz => (first | omega | (simp; done) | (simp; omega) | (simp at *; omega)))) | (with_reducible refine Below.drew ?_) | (with_reducible refine below_drewN ?_ _) | ((with_reducible refine Below.trans ?_ (Below.mono (by with_reducible assumption) ?hsz)); (case hsz => (first | omega | (simp; done) | (simp; omega) | (simp at *; omega))))))))).mono ?_
  rintro e w1 ⟨rfl, hb1⟩
  have bx1 := bx0.keep hb1
  have hB1 : Below w.heap.size w w1 := by (repeat (first | (with_reducible assumption) | (with_reducible exact Below.refl _ _) | ((with_reducible refine Below.alloc ?_ ?hsz _); (case hsz => (first | omega | (simp; done) | (simp; omega) | (simp at *; omega)))) | ((with_reducible refine Below.setCell ?_ ?hsz _); (case hsz => (first | omega | (simp; done) | (simp; omega) | (simp at *; omega)))) | (with_reducible refine Below.drew ?_) | (with_reducible refine below_drewN ?_ _) | ((with_reducible refine Below.trans ?_ (Below.mono (by with_reducible assumption) ?hsz)); (case hsz => (first | omega | (simp; done) | (simp; omega) | (simp at *; omega))))))
  have hz1 := hB1.size
  clear bx0 hb1
  obtain ⟨bs, d0, d1, -, -⟩ := id bx1
  by_cases hn : needsB n ps nd = true
  · rw [hn]
    have hl7 := (netOk_parts (free_net (needs_parts hn).1)).2.2.1
    have Hr : Hid (feedB n ps nd = fedIs n nd ps (List.replicate ps.length 0) ∧ feedL n ps nd = fedL n nd ps (List.replicate ps.length 0)) := Lib.hid (by
      unfold feedB feedL fedIs fedL
      rw [feedO_yes hn]
      exact ⟨rfl, rfl⟩)
    have Hl := Lib.hid (needs_holds hn)
    have HD := Lib.hid (And.intro (needs_in hn) (needs_parts hn).2.1)
    obtain ⟨M, hM⟩ : ∃ M, ps.length = M := ⟨_, rfl⟩
    have hmk := fun W => run_make_ints (n := M) (by omega) W
    rw [hM] at d1 hp0 bx1 Hr Hl hcp1 hl7 ⊢
    have HM := Lib.hid hM
    clear hn hM
    go_wp2_with fail
    refine wp_region_flow 11 none [(0, 10), (1, 11), (2, 12), (3, 13), (4, 14), (5, 15), (6, 16), (7, 17), (8, 18), (9, 4), (10, 5)] (fun j x _ wx => fdV w1.heap.size w.heap.size n (.slice A M c) (.slice A2 mo c2) ps nd M j x wx) (fun _ wx wy => Below wx.heap.size wx wy) (fun _ wx => Below w1.heap.size w1 wx) (by kernel_rfl) (by kernel_rfl) rfl ⟨rfl, rfl, rfl, Nat.le_refl _, fun _ _ => rfl⟩ ?_ ?_ ?_ ?_
    · intro i k hi hk hal x u wx wy hR hV
      have hk' : k < 11 := hk
      have hb : Below wx.heap.size wx wy := hR
      rcases k with _ | _ | _ | _ | _ | _ | _ | _ | _ | _ | _ | k
      all_goals first | exact hV | (exfalso; omega) | skip
      · exact Ints.keep hV hb
      · obtain ⟨r, h1, h2⟩ := hV; exact ⟨r, h1, h2.keep hb⟩
      · exact Ints.keep hV hb
      · exact Ints.keep hV hb
    · exact fun _ _ _ _ _ _ _ h => h
    · simp only [eachOp, fillF, List.setIfInBounds_toArray, List.set_cons_succ, List.set_cons_zero]
      refine ⟨?_, ?_, ?_, ?_, ?_, ?_, ?_, ?_, ?_, ?_, ?_, trivial⟩ <;> intro u f wx hC hd <;> (try simp [allV, useOf, Region.binds] at hd) <;> have c0 := (bel_cell hC bs).trans d0 <;> have c1 := (bel_cell hC bs).trans d1
      · go_wp2
        exact ⟨_, rfl, rfl, Below.refl _ _, hC⟩
      · go_wp2
        exact ⟨_, rfl, rfl, Below.refl _ _, hC⟩
      · rw [show u 1 = _ from hd]
        go_wp2
        exact ⟨_, rfl, rfl, Below.refl _ _, hC⟩
      · rw [show u 2 = _ from hd]
        go_wp2
        exact ⟨_, rfl, rfl, Below.refl _ _, hC⟩
      · rw [show u 3 = _ from hd]
        go_wp2
        refine ⟨_, rfl, ?_, (Below.refl _ _).alloc (Nat.le_refl _) _, hC.alloc hC.size _⟩
        show Ints _ _ _ (List.replicate M 0)
        exact (Row.ints (b := wx.heap.size) ⟨made_ints wx M 3 wx.heap.size (Nat.le_refl _) (by omega), by unfold small; omega⟩).mono hC.size
      · go_wp2
        exact ⟨_, rfl, rfl, Below.refl _ _, hC⟩
      · obtain ⟨h0, h4, h5⟩ : u 0 = .agg #[.int .i64 n, .slice A M c] ∧ Ints wx w1.heap.size (u 4) (List.replicate M 0) ∧ u 5 = .slice A2 mo c2 := hd
        rw [h0, h5]
        go_wp2_with fail
        refine (fedFrom_any n _ _ _ ps (List.replicate M 0) nd b b2 w1.heap.size _ hC.size (hp0.keep (hB1.trans (hC.mono hz1))) h4 (ho0.keep (hB1.trans (hC.mono hz1))) Hl.out HD.out.1 HD.out.2).mono ?_
        rintro e w4 ⟨r, rfl, hr, hb4⟩
        go_wp2
        exact ⟨_, rfl, ⟨r, by rw [Hr.out.1], by rw [Hr.out.2]; exact hr⟩, hb4, hC.trans (hb4.mono hC.size)⟩
      · obtain ⟨r, h7, hr⟩ : ∃ r, u 6 = .tuple #[r, .bool (feedB n ps nd)] ∧ Ints wx w1.heap.size r (feedL n ps nd) := hd
        rw [h7]
        go_wp2
        exact ⟨_, rfl, hr, Below.refl _ _, hC⟩
      · obtain ⟨r, h7, hr⟩ : ∃ r, u 6 = .tuple #[r, .bool (feedB n ps nd)] ∧ Ints wx w1.heap.size r (feedL n ps nd) := hd
        rw [h7]
        go_wp2
        exact ⟨_, rfl, rfl, Below.refl _ _, hC⟩
      · have h8 : Ints wx w1.heap.size (u 7) (feedL n ps nd) := hd
        obtain ⟨A8, c8, e8, -⟩ := h8.form
        rw [e8] at h8 ⊢
        go_wp2
        exact ⟨_, rfl, h8, Below.refl _ _, hC⟩
      · rw [show u 8 = _ from hd]
        go_wp2
        exact ⟨_, rfl, rfl, Below.refl _ _, hC⟩
    · intro u f wx hC hfin
      simp only [fillEnd, fillF, Act.put, List.setIfInBounds_toArray, List.set_cons_succ, List.set_cons_zero]
      have h10 : Ints wx w1.heap.size (u 9) (feedL n ps nd) := hfin 9 (by decide) (by decide)
      rw [show u 10 = _ from hfin 10 (by decide) (by decide)]
      generalize u 9 = s at *
      have hBC := hB1.trans (hC.mono hz1)
      clear hfin
      go_wp2
      go_ret2
      exact ⟨_, rfl, h10.mono hz1, hBC⟩
  · have hn' : needsB n ps nd = false := by simpa using hn
    rw [hn']
    have Hw := Lib.hid (feed_none (feedO_no hn'))
    clear hn hn'
    go_wp2
    go_ret2
    exact ⟨_, ret_vb Hw.out.1.symm, by rw [Hw.out.2]; exact Ints_nil _ _, hB1⟩

set_option maxHeartbeats 2000000 in
set_option maxRecDepth 20000 in
theorem cheapestFeed_any (n : Int) (v o : Value) (ps : List Pp) (nd : List Int) (b b2 : Nat) (w : World) (hp : Pipes w b v ps) (ho : Ints w b2 o nd) :
    Calls Try.prog 41 #[.agg #[.int .i64 n, v], o] w fun e w' => e = .returned (.tuple #[.int .i64 (cfeedR n ps nd).1, .bool (cfeedR n ps nd).2]) ∧ Below w.heap.size w w' := by
  have hp0 := hp
  have ho0 := ho
  obtain ⟨A, c, rfl, hcp1, hcp2, -, -⟩ := hp.form
  obtain ⟨A2, c2, rfl, -, -, -, -⟩ := ho.form
  have bx0 := Box2.new w (.int .i64 n) (.slice A ps.length c) 25
  go_enter Try.func41, Try.ntmps41
  go_wp2_with fail
  with_reducible refine (feedingOf_any n _ _ ps nd b b2 _ (hp0.keep (by (repeat (first | (with_reducible assumption) | (with_reducible exact Below.refl _ _) | ((with_reducible refine Below.alloc ?_ ?hsz _); (case hsz => (first | omega | (simp; done) | (simp; omega) | (simp at *; omega)))) | ((with_reducible refine Below.setCell ?_ ?hsz _); (case hsz => (first | omega | (simp; done) | (simp; omega) | (simp at *; omega)))) | (with_reducible refine Below.drew ?_) | (with_reducible refine below_drewN ?_ _) | ((with_reducible refine Below.trans ?_ (Below.mono (by with_reducible assumption) ?hsz)); (case hsz => (first | omega | (simp; done) | (simp; omega) | (simp at *; omega)))))))) (ho0.keep (by (repeat (first | (with_reducible assumption) | (with_reducible exact Below.refl _ _) | ((with_reducible refine Below.alloc ?_ ?hsz _); (case hsz => (first | omega | (simp; done) | (simp; omega) | (simp at *; omega)))) | ((with_reducible refine Below.setCell ?_ ?hsz _); (case hsz => (first | omega | (simp; done) | (simp; omega) | (simp at *; omega)))) | (with_reducible refine Below.drew ?_) | (with_reducible refine below_drewN ?_ _) | ((with_reducible refine Below.trans ?_ (Below.mono (by with_reducible assumption) ?hsz)); (case hsz => (first | omega | (simp; done) | (simp; omega) | (simp at *; omega))))))))).mono ?_
  rintro e w1 ⟨r1, rfl, hr1, hb1⟩
  have bx1 := bx0.keep hb1
  have hB1 : Below w.heap.size w w1 := by (repeat (first | (with_reducible assumption) | (with_reducible exact Below.refl _ _) | ((with_reducible refine Below.alloc ?_ ?hsz _); (case hsz => (first | omega | (simp; done) | (simp; omega) | (simp at *; omega)))) | ((with_reducible refine Below.setCell ?_ ?hsz _); (case hsz => (first | omega | (simp; done) | (simp; omega) | (simp at *; omega)))) | (with_reducible refine Below.drew ?_) | (with_reducible refine below_drewN ?_ _) | ((with_reducible refine Below.trans ?_ (Below.mono (by with_reducible assumption) ?hsz)); (case hsz => (first | omega | (simp; done) | (simp; omega) | (simp at *; omega))))))
  have hz1 := hB1.size
  clear bx0 hb1
  obtain ⟨bs, d0, d1, -, -⟩ := id bx1
  obtain ⟨A3, c3, rfl, -, -, -, -⟩ := hr1.form
  obtain ⟨m3, hm3⟩ : ∃ m, (feedL n ps nd).length = m := ⟨_, rfl⟩
  rw [hm3] at hr1 ⊢
  clear hm3
  by_cases hf : feedB n ps nd = true
  · have Hc := Lib.hid (cfeed_cost hf)
    rw [hf]
    clear hf
    go_wp2_with fail
    with_reducible refine (cheapest_any n _ _ ps (feedL n ps nd) b _ _ (hp0.keep hB1) hr1).mono ?_
    rintro e w2 ⟨r2, rfl, hr2, hb2⟩
    have bx2 := bx1.keep hb2
    have hB2 := hB1.trans (hb2.mono hz1)
    have hz2 := hB2.size
    clear bx1 d0 d1 bs
    obtain ⟨bs, d0, d1, -, -⟩ := id bx2
    obtain ⟨A4, c4, rfl, -, -, -, -⟩ := hr2.form
    obtain ⟨m4, hm4⟩ : ∃ m, (chpstR n ps (feedL n ps nd)).length = m := ⟨_, rfl⟩
    rw [hm4] at hr2 ⊢
    clear hm4
    go_wp2_with fail
    with_reducible refine (costOf_any n _ _ ps (chpstR n ps (feedL n ps nd)) b _ _ (hp0.keep hB2) hr2).mono ?_
    rintro e w3 ⟨rfl, hb3⟩
    rw [Hc.out]
    go_wp2
    go_ret2
    exact ⟨rfl, hB2.trans (hb3.mono hz2)⟩
  · have hf' : feedB n ps nd = false := by simpa using hf
    have Hr : Hid (cfeedR n ps nd = (0, false)) := Lib.hid (by rw [cfeedR, if_neg hf])
    rw [hf']
    clear hf
    go_wp2
    go_ret2
    exact ⟨ret_ib (by rw [Hr.out]), hB1⟩

end Go.Proofs.Ytphbmlephldaaaa
