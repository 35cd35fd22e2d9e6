/- Plain facts. -/
import Derived.Test.YtmgpekdhcghabaaGreatGR17
import Derived.Test.YtmgpekdhcghabaaGreatGR26
import Derived.Test.YtmgpekdhcghabaaGreatGR7
import Derived.Test.YtmgpekdhcghabaaGreatGR27
import Derived.Test.YtmgpekdhcghabaaGreatGR6
import Derived.Test.YtmgpekdhcghabaaGreatGR25
import Derived.Test.YtmgpekdhcghabaaGreatGR8
import Derived.Test.YtmgpekdhcghabaaGreatGR22
import Derived.Test.YtmgpekdhcghabaaGreatZD
import Derived.Test.YtmgpekdhcghabaaGreatGR21
import Derived.Test.YtmgpekdhcghabaaGreatSI
import Derived.Test.YtmgpekdhcghabaaGreatD3
import Derived.BigQuiet
/- Contracts of the functions of chapter 4 in the program: RingOk and ThreadOk. -/
namespace Go.Proofs.YtmgpekdhcghabaaGreat
open Go.RowKit

set_option maxHeartbeats 4000000 in
set_option maxRecDepth 20000 in
theorem threadOk_rd (n i k : Int) (v u : Value) (ps : List Pp) (xs : List Int) (b : Nat) (w : World) (hp : Pipes w b v ps) (hx : Reads w u xs) :
    Calls Tryz.prog 10 #[.agg #[.int .i64 n, v], u, .int .i64 i, .int .i64 k] w fun e w' => e = .returned (.bool (threadB n ps xs i k)) ∧ Below w.heap.size w w' := by
  have hp0 := hp
  have hx0 := hx
  obtain ⟨A, c, rfl, -, -, -, -⟩ := hp.form
  obtain ⟨A0, c0, rfl, hc1, hc2, hsm, -⟩ := hx.form
  have bx0 := Box2.new w (.int .i64 n) (.slice A ps.length c) 25
  go_enter Tryz.func10, Tryz.ntmps10
  go_wp2_with fail
  refine (endsOk_any n i k _ ps b _ (hp0.keep (by (repeat (first | (with_reducible assumption) | (with_reducible exact Below.refl _ _) | ((with_reducible refine Below.alloc ?_ ?hsz _); (case hsz => (first | omega | (simp; done) | (simp; omega) | (simp at *; omega)))) | ((with_reducible refine Below.setCell ?_ ?hsz _); (case hsz => (first | omega | (simp; done) | (simp; omega) | (simp at *; omega)))) | (with_reducible refine Below.drew ?_) | (with_reducible refine below_drewN ?_ _) | ((with_reducible refine Below.trans ?_ (Below.mono (by with_reducible assumption) ?hsz)); (case hsz => (first | omega | (simp; done) | (simp; omega) | (simp at *; omega))))))))).mono ?_
  rintro e w1 ⟨rfl, hb1⟩
  have bx1 := bx0.keep hb1
  have hB1 : Below w.heap.size w w1 := by (repeat (first | (with_reducible assumption) | (with_reducible exact Below.refl _ _) | ((with_reducible refine Below.alloc ?_ ?hsz _); (case hsz => (first | omega | (simp; done) | (simp; omega) | (simp at *; omega)))) | ((with_reducible refine Below.setCell ?_ ?hsz _); (case hsz => (first | omega | (simp; done) | (simp; omega) | (simp at *; omega)))) | (with_reducible refine Below.drew ?_) | (with_reducible refine below_drewN ?_ _) | ((with_reducible refine Below.trans ?_ (Below.mono (by with_reducible assumption) ?hsz)); (case hsz => (first | omega | (simp; done) | (simp; omega) | (simp at *; omega))))))
  obtain ⟨bs, d0, d1, g0, g1⟩ := id bx1
  clear bx0 hb1
  by_cases he : endsB n ps i k = true
  · rw [he]
    go_wp2_with fail
    refine (walkOk_any n _ _ ps xs b _ (hp0.keep hB1) (hx0.keep hB1)).mono ?_
    rintro e w2 ⟨rfl, hb2⟩
    have bx2 := bx1.keep hb2
    have hB2 : Below w.heap.size w w2 := by (repeat (first | (with_reducible assumption) | (with_reducible exact Below.refl _ _) | ((with_reducible refine Below.alloc ?_ ?hsz _); (case hsz => (first | omega | (simp; done) | (simp; omega) | (simp at *; omega)))) | ((with_reducible refine Below.setCell ?_ ?hsz _); (case hsz => (first | omega | (simp; done) | (simp; omega) | (simp at *; omega)))) | (with_reducible refine Below.drew ?_) | (with_reducible refine below_drewN ?_ _) | ((with_reducible refine Below.trans ?_ (Below.mono (by with_reducible assumption) ?hsz)); (case hsz => (first | omega | (simp; done) | (simp; omega) | (simp at *; omega))))))
    clear hb2 d0 d1 g0 g1 bx1
    obtain ⟨bs2, d0, d1, g0, g1⟩ := id bx2
    by_cases hw : walkB n ps xs = true
    · rw [hw]
      obtain ⟨hok, h1, h5, hpl, hlk⟩ := walk_parts hw
      have hr : threadB n ps xs i k = (decide (frI ps (xs.getD 0 0) = i) && decide ((nodesI ps xs).getD xs.length 0 = k) && decide (nodesI ps xs).Nodup) := by rw [threadB, hw, he]; rfl
      have Hr := Lib.hid hr
      clear hw hr hok hlk he
      go_wp2_with fail
      refine (nodesAlong_any _ _ xs ps b _ (hp0.keep hB2) (hx0.keep hB2) hpl h1 h5).mono ?_
      rintro e w3 ⟨g, cap, rfl, hR, hb3⟩
      have bx3 := bx2.keep hb3
      have hB3 : Below w.heap.size w w3 := by (repeat (first | (with_reducible assumption) | (with_reducible exact Below.refl _ _) | ((with_reducible refine Below.alloc ?_ ?hsz _); (case hsz => (first | omega | (simp; done) | (simp; omega) | (simp at *; omega)))) | ((with_reducible refine Below.setCell ?_ ?hsz _); (case hsz => (first | omega | (simp; done) | (simp; omega) | (simp at *; omega)))) | (with_reducible refine Below.drew ?_) | (with_reducible refine below_drewN ?_ _) | ((with_reducible refine Below.trans ?_ (Below.mono (by with_reducible assumption) ?hsz)); (case hsz => (first | omega | (simp; done) | (simp; omega) | (simp at *; omega))))))
      clear hb3 d0 d1 g0 g1 bx2
      obtain ⟨bs3, d0, d1, g0, g1⟩ := id bx3
      obtain ⟨hg1, hg2⟩ := hR.lt
      obtain ⟨hcap1, hcap2⟩ := hR.capd
      have hcap3 := hcap2
      unfold maxLen at hcap2
      have y0 := (hR.at' 0 (by omega)).1
      have y1 := (hR.at' xs.length (by omega)).1
      rw [nodes_zero] at y0
      have hnl := nodes_len (ps := ps) (xs := xs)
      have hall := (List.take_of_length_le (l := nodesI ps xs) (i := xs.length + 1) (by omega))
      have Hcall := allDiffer_any g (xs.length + 1) cap (nodesI ps xs) w3 (fun j hj => (hR.at' j hj).1) hg2 (by omega) (by omega) hcap1 hcap3
      rw [hall] at Hcall
      generalize hlast : (nodesI ps xs).getD xs.length 0 = y at *
      generalize hfirst : frI ps (xs.getD 0 0) = z at *
      clear hall hnl hR
      by_cases hyz : z = i
      · have hyb : (z == i) = true := by simpa using hyz
        have Hv := Lib.hid (show decide (z = i) = true from decide_eq_true hyz)
        by_cases hyk : y = k
        · have hyc : (y == k) = true := by simpa using hyk
          have Hw := Lib.hid (show decide (y = k) = true from decide_eq_true hyk)
          clear hyz hyk
          go_wp2_with fail
          refine Hcall.mono ?_
          rintro e w4 ⟨rfl, hb4⟩
          go_wp2
          go_ret
          exact ⟨ret_bool (by rw [Hr.out, Hv.out, Hw.out]; rfl), by (repeat (first | (with_reducible assumption) | (with_reducible exact Below.refl _ _) | ((with_reducible refine Below.alloc ?_ ?hsz _); (case hsz => (first | omega | (simp; done) | (simp; omega) | (simp at *; omega)))) | ((with_reducible refine Below.setCell ?_ ?hsz _); (case hsz => (first | omega | (simp; done) | (simp; omega) | (simp at *; omega)))) | (with_reducible refine Below.drew ?_) | (with_reducible refine below_drewN ?_ _) | ((with_reducible refine Below.trans ?_ (Below.mono (by with_reducible assumption) ?hsz)); (case hsz => (first | omega | (simp; done) | (simp; omega) | (simp at *; omega))))))⟩
        · have hyc : (y == k) = false := by simpa using hyk
          have Hw := Lib.hid (show decide (y = k) = false from decide_eq_false hyk)
          clear hyz hyk
          go_wp2
          go_ret
          exact ⟨ret_bool (by rw [Hr.out, Hv.out, Hw.out]; rfl), by (repeat (first | (with_reducible assumption) | (with_reducible exact Below.refl _ _) | ((with_reducible refine Below.alloc ?_ ?hsz _); (case hsz => (first | omega | (simp; done) | (simp; omega) | (simp at *; omega)))) | ((with_reducible refine Below.setCell ?_ ?hsz _); (case hsz => (first | omega | (simp; done) | (simp; omega) | (simp at *; omega)))) | (with_reducible refine Below.drew ?_) | (with_reducible refine below_drewN ?_ _) | ((with_reducible refine Below.trans ?_ (Below.mono (by with_reducible assumption) ?hsz)); (case hsz => (first | omega | (simp; done) | (simp; omega) | (simp at *; omega))))))⟩
      · have hyb : (z == i) = false := by simpa using hyz
        have Hv := Lib.hid (show decide (z = i) = false from decide_eq_false hyz)
        clear hyz
        go_wp2
        go_ret
        exact ⟨ret_bool (by rw [Hr.out, Hv.out]; rfl), by (repeat (first | (with_reducible assumption) | (with_reducible exact Below.refl _ _) | ((with_reducible refine Below.alloc ?_ ?hsz _); (case hsz => (first | omega | (simp; done) | (simp; omega) | (simp at *; omega)))) | ((with_reducible refine Below.setCell ?_ ?hsz _); (case hsz => (first | omega | (simp; done) | (simp; omega) | (simp at *; omega)))) | (with_reducible refine Below.drew ?_) | (with_reducible refine below_drewN ?_ _) | ((with_reducible refine Below.trans ?_ (Below.mono (by with_reducible assumption) ?hsz)); (case hsz => (first | omega | (simp; done) | (simp; omega) | (simp at *; omega))))))⟩
    · have hw' : walkB n ps xs = false := by simpa using hw
      have Hr := Lib.hid (show threadB n ps xs i k = false by simp [threadB, hw'])
      rw [hw']
      go_wp2
      go_ret
      exact ⟨ret_bool Hr.out.symm, by (repeat (first | (with_reducible assumption) | (with_reducible exact Below.refl _ _) | ((with_reducible refine Below.alloc ?_ ?hsz _); (case hsz => (first | omega | (simp; done) | (simp; omega) | (simp at *; omega)))) | ((with_reducible refine Below.setCell ?_ ?hsz _); (case hsz => (first | omega | (simp; done) | (simp; omega) | (simp at *; omega)))) | (with_reducible refine Below.drew ?_) | (with_reducible refine below_drewN ?_ _) | ((with_reducible refine Below.trans ?_ (Below.mono (by with_reducible assumption) ?hsz)); (case hsz => (first | omega | (simp; done) | (simp; omega) | (simp at *; omega))))))⟩
  · have he' : endsB n ps i k = false := by simpa using he
    have Hr := Lib.hid (show threadB n ps xs i k = false by simp [threadB, he'])
    rw [he']
    go_wp2
    go_ret
    exact ⟨ret_bool Hr.out.symm, by (repeat (first | (with_reducible assumption) | (with_reducible exact Below.refl _ _) | ((with_reducible refine Below.alloc ?_ ?hsz _); (case hsz => (first | omega | (simp; done) | (simp; omega) | (simp at *; omega)))) | ((with_reducible refine Below.setCell ?_ ?hsz _); (case hsz => (first | omega | (simp; done) | (simp; omega) | (simp at *; omega)))) | (with_reducible refine Below.drew ?_) | (with_reducible refine below_drewN ?_ _) | ((with_reducible refine Below.trans ?_ (Below.mono (by with_reducible assumption) ?hsz)); (case hsz => (first | omega | (simp; done) | (simp; omega) | (simp at *; omega))))))⟩

end Go.Proofs.YtmgpekdhcghabaaGreat

/- Contracts of the functions of chapter 11 in the program: ThreadsApart. -/
namespace Go.Proofs.YtmgpekdhcghabaaGreat
open Go.RowKit

/-- a row of rows that are only read -/
def RdRows (w : World) (b : Nat) (v : Value) (Ls : List (List Int)) : Prop :=
  ∃ vs : List Value, vs.length = Ls.length ∧ w.ownsRow b 30 1 v Ls.length vs ∧ Ls.length ≤ small ∧ ∀ k (h : k < Ls.length) (h' : k < vs.length), Reads w vs[k] Ls[k]
theorem RdRows.nil (w : World) (b : Nat) : RdRows w b (.slice none 0 0) [] := ⟨[], rfl, World.ownsRow_nil _ _ _ 1, by simp [small], fun k hk => absurd hk (by simp)⟩
theorem RdRows.keep {w w' : World} {b : Nat} {v : Value} {Ls : List (List Int)} (h : RdRows w b v Ls) (hb : Below w.heap.size w w') : RdRows w' b v Ls := by
  obtain ⟨vs, h1, h2, h3, h4⟩ := h
  exact ⟨vs, h1, own_keep h2 (Nat.le_refl _) hb, h3, fun k hk hk' => (h4 k hk hk').keep hb⟩
theorem RdRows.mono {w : World} {b b' : Nat} {v : Value} {Ls : List (List Int)} (h : RdRows w b v Ls) (hb : b' ≤ b) : RdRows w b' v Ls := by
  obtain ⟨vs, h1, h2, h3, h4⟩ := h
  exact ⟨vs, h1, own_mono h2 hb, h3, h4⟩
theorem RdRows.form {w : World} {b : Nat} {v : Value} {Ls : List (List Int)} (h : RdRows w b v Ls) :
    ∃ A c, v = .slice A Ls.length c ∧ Ls.length ≤ c ∧ c ≤ maxLen ∧ Ls.length ≤ 4194304 ∧ ∀ wr, Below w.heap.size w wr → ∀ k (hk : k < Ls.length), ∃ g vk, A = some ⟨g, 0, none⟩ ∧ b ≤ g ∧ g < w.heap.size ∧ wr.cell? ⟨g, k, none⟩ = some vk ∧ Reads wr vk Ls[k] := by
  obtain ⟨vs, h1, h2, h3, h4⟩ := h
  obtain ⟨A, c, hv, c1, c2, c3⟩ := own_form h2
  refine ⟨A, c, hv, c1, c2, h3, fun wr hb k hk => ?_⟩
  have hkv : k < vs.length := by omega
  obtain ⟨g, hA, hg, hg2, c0, -⟩ := c3 k vs[k] (by simp [hkv])
  exact ⟨g, vs[k], hA, hg, hg2, (hb.cell (p := ⟨g, k, none⟩) hg2).trans c0, (h4 k hk hkv).keep hb⟩

/-- the threads so far: a row of its own, whose rows read in an older world -/
def ThrSt (W wr : World) (v : Value) (m : Nat) (Ts : List (List Int)) : Prop :=
  ∃ vs : List Value, vs.length = Ts.length ∧ Ts.length = m ∧ wr.ownsRow W.heap.size 30 1 v m vs ∧ ∀ k (h : k < Ts.length) (h' : k < vs.length), Reads W vs[k] Ts[k]
theorem ThrSt.rows {W wr : World} {v : Value} {m : Nat} {Ts : List (List Int)} (h : ThrSt W wr v m Ts) (hb : Below W.heap.size W wr) (hm : m ≤ small) : RdRows wr W.heap.size v Ts := by
  obtain ⟨vs, h1, h2, h3, h4⟩ := h
  exact ⟨vs, h1, by rw [h2]; exact h3, by rw [h2]; exact hm, fun k hk hk' => (h4 k hk hk').keep hb⟩
theorem ThrSt.snoc {W : World} {v' x : Value} {m : Nat} {Ts : List (List Int)} {T : List Int} {w' : World} {vs : List Value} (h1 : vs.length = Ts.length) (h2 : Ts.length = m) (h4 : ∀ k (h : k < Ts.length) (h' : k < vs.length), Reads W vs[k] Ts[k])
    (hx : Reads W x T) (ho : w'.ownsRow W.heap.size 30 1 v' (m + 1) (vs ++ [x])) : ThrSt W w' v' (m + 1) (Ts ++ [T]) := by
  refine ⟨vs ++ [x], by simp [h1], by simp [h2], ho, fun k hk hk' => ?_⟩
  by_cases hkl : k < Ts.length
  · rw [List.getElem_append_left (by omega), List.getElem_append_left hkl]
    exact h4 k hkl (by omega)
  · have : k = Ts.length := by simp at hk; omega
    subst this
    rw [List.getElem_append_right (by omega), List.getElem_append_right (Nat.le_refl _)]
    simpa [h1] using hx

set_option maxHeartbeats 4000000 in
set_option maxRecDepth 20000 in
theorem apart_any (n i j : Int) (v : Value) (ps : List Pp) (b : Nat) (w : World) (hp : Pipes w b v ps) :
    Calls Tryz.prog 7 #[.agg #[.int .i64 n, v], .int .i64 i, .int .i64 j] w fun e w' => ∃ r, e = .returned r ∧ RdRows w' w.heap.size r (apartR n ps i j) ∧ Below w.heap.size w w' := by
  have hp0 := hp
  obtain ⟨A, c, rfl, hc1, hc2, hs, -⟩ := hp.form
  go_enter Tryz.func7, Tryz.ntmps7
  go_wp2_with fail
  refine (unitNet_any n _ ps b _ (hp0.keep (by (repeat (first | (with_reducible assumption) | (with_reducible exact Below.refl _ _) | ((with_reducible refine Below.alloc ?_ ?hsz _); (case hsz => (first | omega | (simp; done) | (simp; omega) | (simp at *; omega)))) | ((with_reducible refine Below.setCell ?_ ?hsz _); (case hsz => (first | omega | (simp; done) | (simp; omega) | (simp at *; omega)))) | (with_reducible refine Below.drew ?_) | (with_reducible refine below_drewN ?_ _) | ((with_reducible refine Below.trans ?_ (Below.mono (by with_reducible assumption) ?hsz)); (case hsz => (first | omega | (simp; done) | (simp; omega) | (simp at *; omega))))))))).mono ?_
  rintro e w1 ⟨s, rfl, hq, hb1⟩
  obtain ⟨N', us, HU⟩ : ∃ N' us, Hid (unitN n ps = N' ∧ unitL n ps = us) := ⟨_, _, Lib.hid ⟨rfl, rfl⟩⟩
  rw [HU.out.2] at hq
  rw [HU.out.1]
  obtain ⟨A2, c2, rfl, hk1, hk2, -, -⟩ := hq.form
  unfold maxLen at hk2
  have hz1 := hb1.size
  rw [World.size_alloc] at hz1
  have hbw1 : Below w.heap.size w w1 := by (repeat (first | (with_reducible assumption) | (with_reducible exact Below.refl _ _) | ((with_reducible refine Below.alloc ?_ ?hsz _); (case hsz => (first | omega | (simp; done) | (simp; omega) | (simp at *; omega)))) | ((with_reducible refine Below.setCell ?_ ?hsz _); (case hsz => (first | omega | (simp; done) | (simp; omega) | (simp at *; omega)))) | (with_reducible refine Below.drew ?_) | (with_reducible refine below_drewN ?_ _) | ((with_reducible refine Below.trans ?_ (Below.mono (by with_reducible assumption) ?hsz)); (case hsz => (first | omega | (simp; done) | (simp; omega) | (simp at *; omega))))))
  obtain ⟨W2, hW2⟩ : ∃ W, W = w1.alloc (.cells #[.int .i64 N', .slice A2 us.length c2] 25) := ⟨_, rfl⟩
  have hb2 : Below w1.heap.size w1 W2 := by rw [hW2]; (repeat (first | (with_reducible assumption) | (with_reducible exact Below.refl _ _) | ((with_reducible refine Below.alloc ?_ ?hsz _); (case hsz => (first | omega | (simp; done) | (simp; omega) | (simp at *; omega)))) | ((with_reducible refine Below.setCell ?_ ?hsz _); (case hsz => (first | omega | (simp; done) | (simp; omega) | (simp at *; omega)))) | (with_reducible refine Below.drew ?_) | (with_reducible refine below_drewN ?_ _) | ((with_reducible refine Below.trans ?_ (Below.mono (by with_reducible assumption) ?hsz)); (case hsz => (first | omega | (simp; done) | (simp; omega) | (simp at *; omega))))))
  have hz2 : w1.heap.size + 1 ≤ W2.heap.size := by rw [hW2]; simp
  have q0 : W2.cell? ⟨w1.heap.size, 0, none⟩ = some (.int .i64 N') := by rw [hW2]; go_simp
  have q1 : W2.cell? ⟨w1.heap.size, 1, none⟩ = some (.slice A2 us.length c2) := by rw [hW2]; go_simp
  have hbw2 := hbw1.trans (hb2.mono (by omega))
  clear hb1
  go_wp2_with fail
  rw [← hW2]
  clear hW2
  refine (greatestFlow_any N' i j _ us _ _ (hq.keep hb2)).mono ?_
  rintro e w3 ⟨r, rfl, hF, hb3⟩
  have hz3 := hb3.size
  have hbw3 := hbw2.trans (hb3.mono (by omega))
  have d0 := (hb3.cell (p := ⟨w1.heap.size, 0, none⟩) (by (first | omega | (simp; done) | (simp; omega) | (simp at *; omega)))).trans q0
  have d1 := (hb3.cell (p := ⟨w1.heap.size, 1, none⟩) (by (first | omega | (simp; done) | (simp; omega) | (simp at *; omega)))).trans q1
  have hq3 := (hq.keep hb2).keep hb3
  obtain ⟨A3, c3, rfl, hm1, hm2, -, -⟩ := hF.form
  unfold maxLen at hm2
  obtain ⟨fl, hfl⟩ : ∃ fl, greatF N' us i j = fl := ⟨_, rfl⟩
  rw [hfl] at hF hm1 ⊢
  rcases hg : greatB N' us i j with _ | _
  · have hno : apartR n ps i j = [] := by
      unfold apartR
      rw [if_neg]
      intro he
      have hgr := unit_great he
      obtain ⟨u1, u2⟩ := unit_yes (ends_parts he).1
      rw [← u2, HU.out.2] at hgr
      rw [u1] at HU
      have hN := HU.out.1
      rw [hN, hg] at hgr
      cases hgr
    have HN := Lib.hid hno
    clear hno hg hF
    go_wp2
    go_ret
    exact ⟨_, rfl, by rw [HN.out]; exact RdRows.nil _ _, hbw3⟩
  · have hok : netOkB n ps = true := by
      apply Classical.byContradiction
      intro hno
      obtain ⟨u1, u2⟩ := unit_no (n := n) (ps := ps) (by simpa using hno)
      rw [u1, u2] at HU
      obtain ⟨h1, h2⟩ := HU.out
      subst h1
      subst h2
      exact absurd hg (by simp [greatB, freeB, netOkB, withinB])
    obtain ⟨u1, u2⟩ := unit_yes hok
    obtain rfl : n = N' := u1.symm.trans HU.out.1
    have hus : ps.map unitP = us := u2.symm.trans HU.out.2
    have hen : endsB n ps i j = true := by
      have he := (great_parts hg).2
      simp only [endsB, Bool.and_eq_true] at he ⊢
      exact ⟨⟨⟨hok, he.1.1.2⟩, he.1.2⟩, he.2⟩
    have hAp : apartR n ps i j = threadsL n us i j (partsR n us fl i j) := by
      rw [apartR, if_pos hen, hus, apartU, hfl]
    have HE := Lib.hid (partsR_each (n := n) (a := i) (b := j) (ps := us) (xs := fl))
    have HW := Lib.hid (partsR_few (n := n) (a := i) (b := j) (ps := us) (xs := fl))
    have HAp := Lib.hid hAp
    clear hAp hen hus hok u1 u2 hg hfl HU
    go_wp2_with fail
    refine (partsTop_any n i j _ _ us fl _ _ w3 hq3 hF).mono ?_
    rintro e w4 ⟨r, rfl, hO, hb4⟩
    have hz4 := hb4.size
    have hbw4 := hbw3.trans (hb4.mono (by omega))
    have e0 := (hb4.cell (p := ⟨w1.heap.size, 0, none⟩) (by (first | omega | (simp; done) | (simp; omega) | (simp at *; omega)))).trans d0
    have e1 := (hb4.cell (p := ⟨w1.heap.size, 1, none⟩) (by (first | omega | (simp; done) | (simp; omega) | (simp at *; omega)))).trans d1
    have hq4 := hq3.keep hb4
    generalize partsOkB n us fl i j = pb
    generalize partsR n us fl i j = Ls at *
    obtain ⟨AL, cL, rfl, hl1, hl2, hl3, hcellL⟩ := hO.toM.toB.form
    unfold maxLen at hl2
    obtain ⟨N, hN⟩ : ∃ N, Ls.length = N := ⟨_, rfl⟩
    have HN := Lib.hid hN
    have hN18 : N ≤ 18 := by have := HW.out; omega
    rw [hN] at hl1 ⊢
    clear hl3 hO hF hb4 d0 d1 hN
    obtain ⟨i0, hi0, hz00, hz10, hz20⟩ := info_parts ints_info
    go_wp2_with fail
    go_loopw [37, 12] (fun a t wr => ∃ (k m k1 : Nat) (A1 : Option Addr), k ≤ N ∧ a = .int .i64 k ∧ t = .slice A1 m k1 ∧ m ≤ k ∧ ThrSt w4 wr (.slice A1 m k1) m (threadsL n us i j (Ls.take k)) ∧ Below w4.heap.size w4 wr) (fun a _ _ => N - (intOf a).toNat)
    case atStart => exact ⟨0, 0, 0, none, by omega, rfl, rfl, Nat.le_refl _, ⟨[], rfl, rfl, World.ownsRow_nil _ _ _ 1, fun k hk => absurd hk (by simp [threadsL])⟩, by (repeat (first | (with_reducible assumption) | (with_reducible exact Below.refl _ _) | ((with_reducible refine Below.alloc ?_ ?hsz _); (case hsz => (first | omega | (simp; done) | (simp; omega) | (simp at *; omega)))) | ((with_reducible refine Below.setCell ?_ ?hsz _); (case hsz => (first | omega | (simp; done) | (simp; omega) | (simp at *; omega)))) | (with_reducible refine Below.drew ?_) | (with_reducible refine below_drewN ?_ _) | ((with_reducible refine Below.trans ?_ (Below.mono (by with_reducible assumption) ?hsz)); (case hsz => (first | omega | (simp; done) | (simp; omega) | (simp at *; omega))))))⟩
    case round =>
      obtain ⟨k, m, k1, A1, hk, rfl, rfl, hmk, hT, hb⟩ := hrel
      have hzr := hb.size
      have E0 := (hb.cell (p := ⟨w1.heap.size, 0, none⟩) (by (first | omega | (simp; done) | (simp; omega) | (simp at *; omega)))).trans e0
      have E1 := (hb.cell (p := ⟨w1.heap.size, 1, none⟩) (by (first | omega | (simp; done) | (simp; omega) | (simp at *; omega)))).trans e1
      have HT := Lib.hid hT
      clear hT
      by_cases hlt : k < N
      · have hkL : k < Ls.length := by have := HN.out; omega
        obtain ⟨gL, vk, rfl, -, hgL, cLk, hIk⟩ := hcellL wr hb k hkL
        obtain ⟨gL', vk4, hgA, -, -, cL4, hI4⟩ := hcellL w4 (Below.refl _ _) k hkL
        injection hgA with hgA
        injection hgA with hgA
        subst hgA
        have hvk : vk4 = vk := by
          have := (hb.cell (p := ⟨gL, k, none⟩) hgL).trans cL4
          rw [cLk] at this
          injection this with this
          exact this.symm
        subst hvk
        obtain ⟨L2, L7⟩ := HE.out _ (List.getElem_mem hkL)
        obtain ⟨gk, cc, rfl, hRk⟩ := hI4.row (by omega)
        obtain ⟨ok1, ok2⟩ := hRk.capd
        unfold maxLen at ok2
        obtain ⟨M, hM⟩ : ∃ M, Ls[k].length = M := ⟨_, rfl⟩
        rw [hM] at cLk hI4 L2 L7 ok1
        have hTl := Lib.hid (hI4.tail hM (by omega))
        have Hs := Lib.hid (threads_snoc (n := n) (us := us) (a := i) (b := j) hkL)
        have hM1 : (1 : Int) ≤ (M : Int) := by omega
        have hM2 : 1 ≤ M := by omega
        have hcc : cc ≠ 1 := by omega
        have hcc2 : 1 ≠ cc := by omega
        have hM3 : (M : Int) ≤ (cc : Int) := by omega
        clear hIk hI4 hRk cL4 hM
        by_cases hth : threadB n us (Ls[k].drop 1) i j = true
        · rw [if_pos hth] at Hs
          go_wp2_with fail
          refine (threadOk_rd n i j _ _ us _ _ _ (hq4.keep hb) (hTl.out.keep hb)).mono ?_
          rintro e w5 ⟨rfl, hb5⟩
          rw [hth]
          have hz5 := hb5.size
          have hb45 := hb.trans (hb5.mono hzr)
          obtain ⟨vs, v1, v2, v3, v4⟩ := HT.out
          have hown5 := own_keep v3 (Nat.le_refl _) hb5
          have hrow : ∀ q, (Value.slice A1 m k1).ownBlock = some q → w4.heap.size ≤ q := fun q hq => (hown5.lt q hq).1
          have HV := Lib.hid (And.intro v1 (And.intro v2 v4))
          clear hth hb5 E0 E1 v1 v2 v3 v4
          go_wp2_with (first
            | (at_builtin
               go_must (refine wpList_append_lies _ rfl _ _ 28 rfl w4.heap.size 30 i0 _ 1 24 Tryz.underlying28 hi0 hz00 hz10 hz20 rfl (by omega) _ m _ rfl (hown5.alloc _) ⟨w5.heap.size, 0, none⟩ 1 1 [.slice (some ⟨gk, 1, none⟩) (M - 1) (cc - 1)] rfl rfl (World.news_of_block (cs := #[.slice (some ⟨gk, 1, none⟩) (M - 1) (cc - 1)]) (t := 30) (fr := (0, 0)) (heap_alloc_new _ _)) (by simp [Value.oneCell']) (by omega) (by unfold maxLen; omega) (by omega) (by simp; omega) _ rfl ?_)
               intro g2 k2 w7 hown7 hgr7 hat7 hlt7))
          have hb7 : Below w4.heap.size w4 w7 := by
            refine Below.grown (w := w5.alloc (.cells #[.slice (some ⟨gk, 1, none⟩) (M - 1) (cc - 1)] 30)) (by (repeat (first | (with_reducible assumption) | (with_reducible exact Below.refl _ _) | ((with_reducible refine Below.alloc ?_ ?hsz _); (case hsz => (first | omega | (simp; done) | (simp; omega) | (simp at *; omega)))) | ((with_reducible refine Below.setCell ?_ ?hsz _); (case hsz => (first | omega | (simp; done) | (simp; omega) | (simp at *; omega)))) | (with_reducible refine Below.drew ?_) | (with_reducible refine below_drewN ?_ _) | ((with_reducible refine Below.trans ?_ (Below.mono (by with_reducible assumption) ?hsz)); (case hsz => (first | omega | (simp; done) | (simp; omega) | (simp at *; omega))))))) hgr7 (by (first | omega | (simp; done) | (simp; omega) | (simp at *; omega))) (fun q hq => hrow q hq)
          have hT7 : ThrSt w4 w7 (.slice (some ⟨g2, 0, none⟩) (m + 1) k2) (m + 1) (threadsL n us i j (Ls.take (k + 1))) := by
            rw [Hs.out]
            exact ThrSt.snoc HV.out.1 HV.out.2.1 HV.out.2.2 hTl.out hown7
          clear hown7 hgr7 hat7 hlt7
          go_roundw
          case rel => exact ⟨k + 1, m + 1, k2, some ⟨g2, 0, none⟩, by omega, by go_num, rfl, by omega, hT7, hb7⟩
          case measure => simp [intOf]; omega
        · have hth' : threadB n us (Ls[k].drop 1) i j = false := by simpa using hth
          rw [if_neg hth, List.append_nil] at Hs
          clear hth
          go_wp2_with fail
          refine (threadOk_rd n i j _ _ us _ _ _ (hq4.keep hb) (hTl.out.keep hb)).mono ?_
          rintro e w5 ⟨rfl, hb5⟩
          rw [hth']
          have hz5 := hb5.size
          have hb45 := hb.trans (hb5.mono hzr)
          have hT5 : ThrSt w4 w5 (.slice A1 m k1) m (threadsL n us i j (Ls.take (k + 1))) := by
            rw [Hs.out]
            obtain ⟨vs, v1, v2, v3, v4⟩ := HT.out
            exact ⟨vs, v1, v2, own_keep v3 (Nat.le_refl _) hb5, v4⟩
          have HT5 := Lib.hid hT5
          clear hth' hb5 E0 E1 hT5
          go_wp2
          go_roundw
          case rel => exact ⟨k + 1, m, k1, A1, by omega, by go_num, rfl, by omega, HT5.out, hb45⟩
          case measure => simp [intOf]; omega
      · have hk2 : N = k := by omega
        subst hk2
        have hfin := HT.out
        rw [List.take_of_length_le (by rw [HN.out]; exact Nat.le_refl _), ← HAp.out] at hfin
        have HF := Lib.hid (hfin.rows hb (by unfold small; omega))
        clear hfin
        go_wp2
        go_ret
        exact ⟨_, rfl, HF.out.mono (by omega), hbw4.trans (hb.mono (by omega))⟩

end Go.Proofs.YtmgpekdhcghabaaGreat

/- Contracts of the functions of chapter 11 in the model: ThreadsApart. -/
namespace Go.Proofs.YtmgpekdhcghabaaGreat
open Go.RowKit

theorem Reads.far {w w' : World} {v : Value} {xs : List Int} (h : Reads w v xs) {row : Option Nat} (hg : w.grownBy w' row) (hne : ∀ q, v.ownBlock = some q → some q ≠ row) : Reads w' v xs := by
  obtain ⟨A, c, h1, h2, h3, h4, h5⟩ := h
  refine ⟨A, c, h1, h2, h3, h4, fun h0 => ?_⟩
  obtain ⟨g, o, k1, k2, k3⟩ := h5 h0
  have hb : some g ≠ row := hne g (by rw [h1, k1]; rfl)
  exact ⟨g, o, k1, Nat.lt_of_lt_of_le k2 hg.size, fun j hj => (hg.cell_far ⟨g, o + j, none⟩ k2 hb).trans (k3 j hj)⟩
/-- the threads so far, the row that bears them begun ahead -/
def ThrG (B : Nat) (W wr : World) (g0 : Nat) (v : Value) (m : Nat) (Ts : List (List Int)) : Prop :=
  ∃ vs : List Value, vs.length = Ts.length ∧ Ts.length = m ∧ wr.ownsRow B 30 1 v m vs ∧ ∀ k (h : k < Ts.length) (h' : k < vs.length), Reads W vs[k] Ts[k] ∧ ∀ q, vs[k].ownBlock = some q → q ≠ g0
theorem ThrG.rows {B : Nat} {W wr : World} {g0 : Nat} {v : Value} {m : Nat} {Ts : List (List Int)} (h : ThrG B W wr g0 v m Ts) (hb : W.grownBy wr (some g0)) (hm : m ≤ small) : RdRows wr B v Ts := by
  obtain ⟨vs, h1, h2, h3, h4⟩ := h
  exact ⟨vs, h1, by rw [h2]; exact h3, by rw [h2]; exact hm, fun k hk hk' => (h4 k hk hk').1.far hb fun q hq e => by injection e with e; exact (h4 k hk hk').2 q hq e⟩
theorem ThrG.snoc {B : Nat} {W : World} {g0 : Nat} {v' x : Value} {m : Nat} {Ts : List (List Int)} {T : List Int} {w' : World} {vs : List Value} (h1 : vs.length = Ts.length) (h2 : Ts.length = m) (h4 : ∀ k (h : k < Ts.length) (h' : k < vs.length), Reads W vs[k] Ts[k] ∧ ∀ q, vs[k].ownBlock = some q → q ≠ g0)
    (hx : Reads W x T) (hx0 : ∀ q, x.ownBlock = some q → q ≠ g0) (ho : w'.ownsRow B 30 1 v' (m + 1) (vs ++ [x])) : ThrG B W w' g0 v' (m + 1) (Ts ++ [T]) := by
  refine ⟨vs ++ [x], by simp [h1], by simp [h2], ho, fun k hk hk' => ?_⟩
  by_cases hkl : k < Ts.length
  · rw [List.getElem_append_left (by omega), List.getElem_append_left hkl]
    exact h4 k hkl (by omega)
  · have : k = Ts.length := by simp at hk; omega
    subst this
    rw [List.getElem_append_right (by omega), List.getElem_append_right (Nat.le_refl _)]
    simpa [h1] using And.intro hx hx0

set_option maxHeartbeats 4000000 in
set_option maxRecDepth 20000 in
theorem specApart_any (n i j : Int) (v : Value) (ps : List Pp) (b : Nat) (w : World) (hp : Pipes w b v ps) :
    Calls Tryz.prog 8 #[.agg #[.int .i64 n, v], .int .i64 i, .int .i64 j] w fun e w' => ∃ r, e = .returned r ∧ RdRows w' w.heap.size r (apartR n ps i j) ∧ Below w.heap.size w w' := by
  have hp0 := hp
  obtain ⟨A, c, rfl, hc1, hc2, hs, -⟩ := hp.form
  obtain ⟨w0, hw0⟩ : ∃ W, W = (w.alloc (.cells #[.int .i64 n, .slice A ps.length c] 25)).alloc (.cells #[] 30) := ⟨_, rfl⟩
  have hb0 : Below w.heap.size w w0 := by rw [hw0]; (repeat (first | (with_reducible assumption) | (with_reducible exact Below.refl _ _) | ((with_reducible refine Below.alloc ?_ ?hsz _); (case hsz => (first | omega | (simp; done) | (simp; omega) | (simp at *; omega)))) | ((with_reducible refine Below.setCell ?_ ?hsz _); (case hsz => (first | omega | (simp; done) | (simp; omega) | (simp at *; omega)))) | (with_reducible refine Below.drew ?_) | (with_reducible refine below_drewN ?_ _) | ((with_reducible refine Below.trans ?_ (Below.mono (by with_reducible assumption) ?hsz)); (case hsz => (first | omega | (simp; done) | (simp; omega) | (simp at *; omega))))))
  have hz0 : w.heap.size + 2 ≤ w0.heap.size := by rw [hw0]; simp
  have hO0 : w0.ownsRow w.heap.size 30 1 (.slice (some ⟨(w.heap.size + 1), 0, none⟩) 0 0) 0 [] := by
    rw [hw0]
    have h := World.ownsRow_lit (e := 30) (base := w.heap.size) (size := 1) (w.alloc (.cells #[.int .i64 n, .slice A ps.length c] 25)) #[] 0 (by simp) (by simp [maxLen]) rfl
    rw [World.size_alloc] at h
    exact h
  have hgz : w.heap.size + 1 + 1 ≤ w0.heap.size := by omega
  go_enter Tryz.func8, Tryz.ntmps8
  go_wp2_with fail
  rw [← hw0]
  clear hw0
  refine (specUnit_any n _ ps b _ (hp0.keep hb0)).mono ?_
  rintro e w1 ⟨s, rfl, hq, hb1⟩
  obtain ⟨N', us, HU⟩ : ∃ N' us, Hid (unitN n ps = N' ∧ unitL n ps = us) := ⟨_, _, Lib.hid ⟨rfl, rfl⟩⟩
  rw [HU.out.2] at hq
  rw [HU.out.1]
  obtain ⟨A2, c2, rfl, hk1, hk2, -, -⟩ := hq.form
  unfold maxLen at hk2
  have hz1 := hb1.size
  have hbw1 : Below w.heap.size w w1 := hb0.trans (hb1.mono (by omega))
  have hO1 := own_keep hO0 (Nat.le_refl _) hb1
  obtain ⟨W2, hW2⟩ : ∃ W, W = w1.alloc (.cells #[.int .i64 N', .slice A2 us.length c2] 25) := ⟨_, rfl⟩
  have hb2 : Below w1.heap.size w1 W2 := by rw [hW2]; (repeat (first | (with_reducible assumption) | (with_reducible exact Below.refl _ _) | ((with_reducible refine Below.alloc ?_ ?hsz _); (case hsz => (first | omega | (simp; done) | (simp; omega) | (simp at *; omega)))) | ((with_reducible refine Below.setCell ?_ ?hsz _); (case hsz => (first | omega | (simp; done) | (simp; omega) | (simp at *; omega)))) | (with_reducible refine Below.drew ?_) | (with_reducible refine below_drewN ?_ _) | ((with_reducible refine Below.trans ?_ (Below.mono (by with_reducible assumption) ?hsz)); (case hsz => (first | omega | (simp; done) | (simp; omega) | (simp at *; omega))))))
  have hz2 : w1.heap.size + 1 ≤ W2.heap.size := by rw [hW2]; simp
  have q0 : W2.cell? ⟨w1.heap.size, 0, none⟩ = some (.int .i64 N') := by rw [hW2]; go_simp
  have q1 : W2.cell? ⟨w1.heap.size, 1, none⟩ = some (.slice A2 us.length c2) := by rw [hW2]; go_simp
  have hbw2 := hbw1.trans (hb2.mono (by omega))
  clear hb1
  go_wp2_with fail
  rw [← hW2]
  clear hW2
  refine (specGreatestFlow_any N' i j _ us _ _ (hq.keep hb2)).mono ?_
  rintro e w3 ⟨r, rfl, hF, hb3⟩
  have hz3 := hb3.size
  have hbw3 := hbw2.trans (hb3.mono (by omega))
  have hO3 := own_keep (own_keep hO1 (Nat.le_refl _) hb2) (Nat.le_refl _) hb3
  have d0 := (hb3.cell (p := ⟨w1.heap.size, 0, none⟩) (by (first | omega | (simp; done) | (simp; omega) | (simp at *; omega)))).trans q0
  have d1 := (hb3.cell (p := ⟨w1.heap.size, 1, none⟩) (by (first | omega | (simp; done) | (simp; omega) | (simp at *; omega)))).trans q1
  have hq3 := (hq.keep hb2).keep hb3
  obtain ⟨A3, c3, rfl, hm1, hm2, -, -⟩ := hF.form
  unfold maxLen at hm2
  obtain ⟨fl, hfl⟩ : ∃ fl, greatF N' us i j = fl := ⟨_, rfl⟩
  rw [hfl] at hF hm1 ⊢
  rcases hg : greatB N' us i j with _ | _
  · have hno : apartR n ps i j = [] := by
      unfold apartR
      rw [if_neg]
      intro he
      have hgr := unit_great he
      obtain ⟨u1, u2⟩ := unit_yes (ends_parts he).1
      rw [← u2, HU.out.2] at hgr
      rw [u1] at HU
      have hN := HU.out.1
      rw [hN, hg] at hgr
      cases hgr
    have HN := Lib.hid hno
    clear hno hg hF
    go_wp2
    go_ret
    exact ⟨_, rfl, by rw [HN.out]; exact ⟨[], rfl, hO3, by simp [small], fun k hk => absurd hk (by simp)⟩, hbw3⟩
  · have hok : netOkB n ps = true := by
      apply Classical.byContradiction
      intro hno
      obtain ⟨u1, u2⟩ := unit_no (n := n) (ps := ps) (by simpa using hno)
      rw [u1, u2] at HU
      obtain ⟨h1, h2⟩ := HU.out
      subst h1
      subst h2
      exact absurd hg (by simp [greatB, freeB, netOkB, withinB])
    obtain ⟨u1, u2⟩ := unit_yes hok
    obtain rfl : n = N' := u1.symm.trans HU.out.1
    have hus : ps.map unitP = us := u2.symm.trans HU.out.2
    have hen : endsB n ps i j = true := by
      have he := (great_parts hg).2
      simp only [endsB, Bool.and_eq_true] at he ⊢
      exact ⟨⟨⟨hok, he.1.1.2⟩, he.1.2⟩, he.2⟩
    have hAp : apartR n ps i j = threadsL n us i j (partsR n us fl i j) := by
      rw [apartR, if_pos hen, hus, apartU, hfl]
    have HE := Lib.hid (partsR_each (n := n) (a := i) (b := j) (ps := us) (xs := fl))
    have HW := Lib.hid (partsR_few (n := n) (a := i) (b := j) (ps := us) (xs := fl))
    have HAp := Lib.hid hAp
    clear hAp hen hus hok u1 u2 hg hfl HU
    go_wp2_with fail
    refine (specPartsTop_any n i j _ _ us fl _ _ w3 hq3 hF).mono ?_
    rintro e w4 ⟨gp, cL, rfl, hO, hb4⟩
    have hz4 := hb4.size
    have hbw4 := hbw3.trans (hb4.mono (by omega))
    have e0 := (hb4.cell (p := ⟨w1.heap.size, 0, none⟩) (by (first | omega | (simp; done) | (simp; omega) | (simp at *; omega)))).trans d0
    have e1 := (hb4.cell (p := ⟨w1.heap.size, 1, none⟩) (by (first | omega | (simp; done) | (simp; omega) | (simp at *; omega)))).trans d1
    have hq4 := hq3.keep hb4
    have hO4 := own_keep hO3 (Nat.le_refl _) hb4
    generalize partsOkB n us fl i j = pb
    generalize partsR n us fl i j = Ls at *
    have hPB := hO.toB
    obtain ⟨AL, cL', hvL, hl1, hl2, hl3, hcellL⟩ := hPB.form
    injection hvL with v1 v2 v3
    subst v1
    subst v3
    unfold maxLen at hl2
    obtain ⟨N, hN⟩ : ∃ N, Ls.length = N := ⟨_, rfl⟩
    have HN := Lib.hid hN
    have hN18 : N ≤ 18 := by have := HW.out; omega
    rw [hN] at hl1 hPB ⊢
    clear hl3 hO hF hb4 d0 d1 hN v2 hO3 hO1 hO0
    obtain ⟨i0, hi0, hz00, hz10, hz20⟩ := info_parts ints_info
    go_wp2_with fail
    go_loopw [13, 7] (fun a t wr => ∃ (k m k1 g1 : Nat), k ≤ N ∧ a = .int .i64 k ∧ t = .slice (some ⟨g1, 0, none⟩) m k1 ∧ m ≤ k ∧ (g1 = (w.heap.size + 1) ∨ w4.heap.size ≤ g1) ∧ ThrG w.heap.size w4 wr (w.heap.size + 1) (.slice (some ⟨g1, 0, none⟩) m k1) m (threadsL n us i j (Ls.take k)) ∧ w4.grownBy wr (some (w.heap.size + 1))) (fun a _ _ => N - (intOf a).toNat)
    case atStart => exact ⟨0, 0, 0, (w.heap.size + 1), by omega, rfl, rfl, Nat.le_refl _, .inl rfl, ⟨[], rfl, rfl, hO4, fun k hk => absurd hk (by simp [threadsL])⟩, grow_refl _ _⟩
    case round =>
      obtain ⟨k, m, k1, g1, hk, rfl, rfl, hmk, hg1, hT, hb⟩ := hrel
      have hzr := hb.size
      have E0 := (hb.cell_far ⟨w1.heap.size, 0, none⟩ (by (first | omega | (simp; done) | (simp; omega) | (simp at *; omega))) (by intro e; injection e with e; simp at e; omega)).trans e0
      have E1 := (hb.cell_far ⟨w1.heap.size, 1, none⟩ (by (first | omega | (simp; done) | (simp; omega) | (simp at *; omega))) (by intro e; injection e with e; simp at e; omega)).trans e1
      have hqr := hq4.grown hb (by omega)
      have HT := Lib.hid hT
      clear hT
      by_cases hlt : k < N
      · have hkL : k < Ls.length := by have := HN.out; omega
        obtain ⟨gL, vk, hgLe, hgLb, hgL, cLk, hI4⟩ := hcellL w4 (Below.refl _ _) k hkL
        injection hgLe with hgLe
        injection hgLe with hgLe
        subst hgLe
        have cLr := (hb.cell_far ⟨gp, k, none⟩ hgL (by intro e; injection e with e; simp at e; omega)).trans cLk
        have hgLr : gp < wr.heap.size := by omega
        obtain ⟨L2, L7⟩ := HE.out _ (List.getElem_mem hkL)
        obtain ⟨gk, cc, rfl, hRk⟩ := hI4.row (by omega)
        obtain ⟨ok1, ok2⟩ := hRk.capd
        have hgkb := hRk.lt.1
        unfold maxLen at ok2
        obtain ⟨M, hM⟩ : ∃ M, Ls[k].length = M := ⟨_, rfl⟩
        rw [hM] at cLk cLr hI4 L2 L7 ok1
        have hTl0 := hI4.tail hM (by omega)
        have hgk0 : gk ≠ (w.heap.size + 1) := by omega
        have hTlr := hTl0.far hb (fun q hq e2 => by have e : gk = q := Option.some.inj hq; have e3 : q = w.heap.size + 1 := Option.some.inj e2; omega)
        have hTl := Lib.hid hTl0
        have Hs := Lib.hid (threads_snoc (n := n) (us := us) (a := i) (b := j) hkL)
        have hM1 : (1 : Int) ≤ (M : Int) := by omega
        have hM2 : 1 ≤ M := by omega
        have hcc : cc ≠ 1 := by omega
        have hcc2 : 1 ≠ cc := by omega
        have hM3 : (M : Int) ≤ (cc : Int) := by omega
        have bsr : w1.heap.size < wr.heap.size := by omega
        clear hI4 hRk cLk hM hTl0
        by_cases hth : threadB n us (Ls[k].drop 1) i j = true
        · rw [if_pos hth] at Hs
          go_wp2_with fail
          have hd0 := fun p : Bw wr => (bw_cell p bsr).trans E0
          have hd1 := fun p : Bw wr => (bw_cell p bsr).trans E1
          have hdL := fun p : Bw wr => (bw_cell p hgLr).trans cLr
          refine wp_region_bw (by kernel_rfl) (by kernel_rfl) ?_
          repeat (go_big_quiet_step ((go_at_call 33; refine calls_bw (specThreadOk_rd n i j _ _ us _ _ _ (hqr.keep (Bw.h _)) (hTlr.keep (Bw.h _))))))
          refine wpQuiet_nil ?_
          rintro _ ⟨pw, rfl⟩
          have hb5 := pw.h
          obtain ⟨w5, hw5⟩ : ∃ wq, wq = pw.v := ⟨_, rfl⟩
          rw [← hw5] at hb5 ⊢
          rw [hth]
          have hz5 := hb5.size
          have cL5 := (hb5.cell (p := ⟨gp, k, none⟩) hgLr).trans cLr
          have hb45 : w4.grownBy w5 (some (w.heap.size + 1)) := grow_below hb hb5
          obtain ⟨vs, v1, v2, v3, v4⟩ := HT.out
          have hown5 := own_keep v3 (Nat.le_refl _) hb5
          have hrow : ∀ q, (Value.slice (some ⟨g1, 0, none⟩) m k1).ownBlock = some q → w.heap.size ≤ q := fun q hq => (hown5.lt q hq).1
          have HV := Lib.hid (And.intro v1 (And.intro v2 v4))
          have hg15 := (hown5.lt g1 rfl).2
          clear hth hb5 E0 E1 v1 v2 v3 v4 hd0 hd1 hdL hw5 cLr
          go_wp2_with (first
            | (at_builtin
               go_must (refine wpList_append_lies _ rfl _ _ 28 rfl w.heap.size 30 i0 _ 1 24 Tryz.underlying28 hi0 hz00 hz10 hz20 rfl (by omega) _ m _ rfl (hown5.alloc _) ⟨w5.heap.size, 0, none⟩ 1 1 [.slice (some ⟨gk, 1, none⟩) (M - 1) (cc - 1)] rfl rfl (World.news_of_block (cs := #[.slice (some ⟨gk, 1, none⟩) (M - 1) (cc - 1)]) (t := 30) (fr := (0, 0)) (heap_alloc_new _ _)) (by simp [Value.oneCell']) (by omega) (by unfold maxLen; omega) (by omega) (by simp; omega) (w5.heap.size + 1) (by simp) ?_)
               intro g2 k2 w7 hown7 hgr7 hat7 hlt7))
          have hb7 : w4.grownBy w7 (some (w.heap.size + 1)) := grow_more (grow_alloc hb45 _) hgr7 (fun q hq => by
            have e : g1 = q := by injection hq
            subst e
            rcases hg1 with h | h
            · exact .inr (by rw [h])
            · exact .inl h)
          have hg2 : g2 = (w.heap.size + 1) ∨ w4.heap.size ≤ g2 := by
            rcases hat7 with h | h
            · have e : g1 = g2 := by injection h
              rw [← e]; exact hg1
            · right; omega
          have hT7 : ThrG w.heap.size w4 w7 (w.heap.size + 1) (.slice (some ⟨g2, 0, none⟩) (m + 1) k2) (m + 1) (threadsL n us i j (Ls.take (k + 1))) := by
            rw [Hs.out]
            exact ThrG.snoc HV.out.1 HV.out.2.1 HV.out.2.2 hTl.out (fun q hq => by have e : gk = q := Option.some.inj hq; omega) hown7
          clear hown7 hgr7 hat7 hlt7
          go_roundw
          case rel => exact ⟨k + 1, m + 1, k2, g2, by omega, by go_num, rfl, by omega, hg2, hT7, hb7⟩
          case measure => simp [intOf]; omega
        · have hth' : threadB n us (Ls[k].drop 1) i j = false := by simpa using hth
          rw [if_neg hth, List.append_nil] at Hs
          clear hth
          go_wp2_with fail
          have hd0 := fun p : Bw wr => (bw_cell p bsr).trans E0
          have hd1 := fun p : Bw wr => (bw_cell p bsr).trans E1
          have hdL := fun p : Bw wr => (bw_cell p hgLr).trans cLr
          refine wp_region_bw (by kernel_rfl) (by kernel_rfl) ?_
          repeat (go_big_quiet_step ((go_at_call 33; refine calls_bw (specThreadOk_rd n i j _ _ us _ _ _ (hqr.keep (Bw.h _)) (hTlr.keep (Bw.h _))))))
          refine wpQuiet_nil ?_
          rintro _ ⟨pw, rfl⟩
          have hb5 := pw.h
          obtain ⟨w5, hw5⟩ : ∃ wq, wq = pw.v := ⟨_, rfl⟩
          rw [← hw5] at hb5 ⊢
          rw [hth']
          have hb45 : w4.grownBy w5 (some (w.heap.size + 1)) := grow_below hb hb5
          have hT5 : ThrG w.heap.size w4 w5 (w.heap.size + 1) (.slice (some ⟨g1, 0, none⟩) m k1) m (threadsL n us i j (Ls.take (k + 1))) := by
            rw [Hs.out]
            obtain ⟨vs, v1, v2, v3, v4⟩ := HT.out
            exact ⟨vs, v1, v2, own_keep v3 (Nat.le_refl _) hb5, v4⟩
          have HT5 := Lib.hid (And.intro hT5 hb45)
          clear hth' hb5 E0 E1 hT5 hb45 hd0 hd1 hdL hw5
          go_wp2
          go_roundw
          case rel => exact ⟨k + 1, m, k1, g1, by omega, by go_num, rfl, by omega, hg1, HT5.out.1, HT5.out.2⟩
          case measure => simp [intOf]; omega
      · have hk2 : N = k := by omega
        subst hk2
        have hfin := HT.out
        rw [List.take_of_length_le (by rw [HN.out]; exact Nat.le_refl _), ← HAp.out] at hfin
        have HF := Lib.hid (And.intro (hfin.rows hb (by unfold small; omega)) (hbw4.trans (below_grow hb (by omega) (fun q hq => by injection hq with hq; omega))))
        clear hfin
        go_wp2
        go_ret
        exact ⟨_, rfl, HF.out.1, HF.out.2⟩

end Go.Proofs.YtmgpekdhcghabaaGreat
