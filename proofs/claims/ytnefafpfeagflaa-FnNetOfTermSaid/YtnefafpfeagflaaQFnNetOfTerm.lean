/- FnNetOfTerm: for every code the law holds: the program's NetOfTerm answers as the model; the net of a term is free, has two nodes more than marks MarkThen, and the pipes in the order of the term. No condition. -/
import Derived.Test.YtnefafpfeagflaaHD
import Derived.Test.YtnefafpfeagflaaAO
import Derived.Test.YtnefafpfeagflaaHC
import Derived.Test.YtnefafpfeagflaaA7
import Derived.Test.YtnefafpfeagflaaWC
import Derived.Test.YtnefafpfeagflaaL2
namespace Go.Proofs.Ytnefafpfeagflaa.lawNetOfTerm
open Go.ChangeShapes Go.WideShapes Go.ChangeAt Go.RowKit Go.Deep Go.Joins

set_option maxHeartbeats 8000000 in
set_option maxRecDepth 20000 in
theorem walk (v : Value) (n : Nat) (w : World) (h : ArgBytes w v n) :
    Calls Try.prog 6 #[v] w fun e w' => e = .returned (.bool true) ∧ Below w.heap.size w w' := by
  obtain ⟨A, c, rfl, hc1, hc2, -⟩ := id h
  unfold maxLen at hc2
  by_cases hbig : 1048576 < n
  · go_enter Try.func6, Try.ntmps6
    go_wp2
    go_ret
    exact ⟨rfl, by (repeat (first | (with_reducible assumption) | (with_reducible exact Below.refl _ _) | ((with_reducible refine Below.alloc ?_ ?hsz _); (case hsz => (first | omega | (simp; done) | (simp; omega) | (simp at *; omega)))) | ((with_reducible refine Below.setCell ?_ ?hsz _); (case hsz => (first | omega | (simp; done) | (simp; omega) | (simp at *; omega)))) | (with_reducible refine Below.drew ?_) | (with_reducible refine below_drewN ?_ _) | ((with_reducible refine Below.trans ?_ (Below.mono (by with_reducible assumption) ?hsz)); (case hsz => (first | omega | (simp; done) | (simp; omega) | (simp at *; omega))))))⟩
  go_enter Try.func6, Try.ntmps6
  go_wp2_with fail
  with_reducible refine (drawNetOfTerm_any _ n _ (h.keep (by (repeat (first | (with_reducible assumption) | (with_reducible exact Below.refl _ _) | ((with_reducible refine Below.alloc ?_ ?hsz _); (case hsz => (first | omega | (simp; done) | (simp; omega) | (simp at *; omega)))) | ((with_reducible refine Below.setCell ?_ ?hsz _); (case hsz => (first | omega | (simp; done) | (simp; omega) | (simp at *; omega)))) | (with_reducible refine Below.drew ?_) | (with_reducible refine below_drewN ?_ _) | ((with_reducible refine Below.trans ?_ (Below.mono (by with_reducible assumption) ?hsz)); (case hsz => (first | omega | (simp; done) | (simp; omega) | (simp at *; omega))))))))).mono ?_
  rintro e w1 ⟨r, ts, rfl, hm, hl, hBw0⟩
  have hBw1 : Below w.heap.size w w1 := by (repeat (first | (with_reducible assumption) | (with_reducible exact Below.refl _ _) | ((with_reducible refine Below.alloc ?_ ?hsz _); (case hsz => (first | omega | (simp; done) | (simp; omega) | (simp at *; omega)))) | ((with_reducible refine Below.setCell ?_ ?hsz _); (case hsz => (first | omega | (simp; done) | (simp; omega) | (simp at *; omega)))) | (with_reducible refine Below.drew ?_) | (with_reducible refine below_drewN ?_ _) | ((with_reducible refine Below.trans ?_ (Below.mono (by with_reducible assumption) ?hsz)); (case hsz => (first | omega | (simp; done) | (simp; omega) | (simp at *; omega))))))
  clear h hc1 hc2 hbig hBw0
  obtain ⟨A1, c1, rfl, hk1, hk2, hsm, hcell⟩ := hm.form
  have HC := Lib.hid hcell
  clear hcell
  unfold maxLen at hk2
  have hB1 : Below w1.heap.size w1 w1 := Below.refl _ _
  obtain ⟨l, hlq⟩ : ∃ l, ts.length = l := ⟨_, rfl⟩
  have HL := Lib.hid hlq
  rw [hlq] at hm hk1 hsm hl ⊢
  clear hlq
  obtain ⟨b, hb⟩ : ∃ b, termB ts = b := ⟨_, rfl⟩
  have HB := Lib.hid hb
  clear hb
  obtain ⟨N, hN⟩ : ∃ x, termNetN ts = x := ⟨_, rfl⟩
  obtain ⟨P, hP⟩ : ∃ x, termNetL ts = x := ⟨_, rfl⟩
  have HN := Lib.hid (And.intro hN hP)
  clear hN hP
  go_wp2_with fail
  with_reducible refine (netOfTerm_any _ ts _ _ (hm.keep hB1)).mono ?_
  rintro e w2 ⟨s, rfl, hp2, hnn⟩
  rw [HB.out]
  rw [HN.out.2] at hp2
  rw [HN.out.1]
  have hl7 := termNet_len ts
  rw [HN.out.2] at hl7
  obtain ⟨A4, c4, rfl, -, -, -, -⟩ := hp2.form
  have hB2 : Below w1.heap.size w1 w2 := by (repeat (first | (with_reducible assumption) | (with_reducible exact Below.refl _ _) | ((with_reducible refine Below.alloc ?_ ?hsz _); (case hsz => (first | omega | (simp; done) | (simp; omega) | (simp at *; omega)))) | ((with_reducible refine Below.setCell ?_ ?hsz _); (case hsz => (first | omega | (simp; done) | (simp; omega) | (simp at *; omega)))) | (with_reducible refine Below.drew ?_) | (with_reducible refine below_drewN ?_ _) | ((with_reducible refine Below.trans ?_ (Below.mono (by with_reducible assumption) ?hsz)); (case hsz => (first | omega | (simp; done) | (simp; omega) | (simp at *; omega))))))
  have hz2 := hB2.size
  obtain ⟨q, hq⟩ : ∃ q, P.length = q := ⟨_, rfl⟩
  have HQ := Lib.hid hq
  rw [hq] at hp2 hl7 ⊢
  have bx2 : Box2 (w2.alloc (.cells #[.int .i64 N, .slice A4 q c4] 33)) w2.heap.size (.int .i64 N) (.slice A4 q c4) := Box2.new _ _ _ _
  have hB2a : Below w1.heap.size w1 (w2.alloc (.cells #[.int .i64 N, .slice A4 q c4] 33)) := by (repeat (first | (with_reducible assumption) | (with_reducible exact Below.refl _ _) | ((with_reducible refine Below.alloc ?_ ?hsz _); (case hsz => (first | omega | (simp; done) | (simp; omega) | (simp at *; omega)))) | ((with_reducible refine Below.setCell ?_ ?hsz _); (case hsz => (first | omega | (simp; done) | (simp; omega) | (simp at *; omega)))) | (with_reducible refine Below.drew ?_) | (with_reducible refine below_drewN ?_ _) | ((with_reducible refine Below.trans ?_ (Below.mono (by with_reducible assumption) ?hsz)); (case hsz => (first | omega | (simp; done) | (simp; omega) | (simp at *; omega))))))
  replace hp2 := hp2.keep (w' := w2.alloc (.cells #[.int .i64 N, .slice A4 q c4] 33)) (by (repeat (first | (with_reducible assumption) | (with_reducible exact Below.refl _ _) | ((with_reducible refine Below.alloc ?_ ?hsz _); (case hsz => (first | omega | (simp; done) | (simp; omega) | (simp at *; omega)))) | ((with_reducible refine Below.setCell ?_ ?hsz _); (case hsz => (first | omega | (simp; done) | (simp; omega) | (simp at *; omega)))) | (with_reducible refine Below.drew ?_) | (with_reducible refine below_drewN ?_ _) | ((with_reducible refine Below.trans ?_ (Below.mono (by with_reducible assumption) ?hsz)); (case hsz => (first | omega | (simp; done) | (simp; omega) | (simp at *; omega)))))))
  clear hnn hq
  go_wp2_with fail
  with_reducible refine (specNetOfTerm_any _ ts _ _ (hm.keep hB2a)).mono ?_
  rintro e w3 ⟨s3, rfl, hp3, hnn⟩
  rw [HB.out]
  rw [HN.out.2] at hp3
  rw [HN.out.1]
  obtain ⟨A5, c5, rfl, hk5, hk6, -, hc3⟩ := hp3.form
  have HC3 := Lib.hid hc3
  clear hc3
  rw [HQ.out] at hp3 hk5 ⊢
  unfold maxLen at hk6
  have hB3 : Below w1.heap.size w1 w3 := by (repeat (first | (with_reducible assumption) | (with_reducible exact Below.refl _ _) | ((with_reducible refine Below.alloc ?_ ?hsz _); (case hsz => (first | omega | (simp; done) | (simp; omega) | (simp at *; omega)))) | ((with_reducible refine Below.setCell ?_ ?hsz _); (case hsz => (first | omega | (simp; done) | (simp; omega) | (simp at *; omega)))) | (with_reducible refine Below.drew ?_) | (with_reducible refine below_drewN ?_ _) | ((with_reducible refine Below.trans ?_ (Below.mono (by with_reducible assumption) ?hsz)); (case hsz => (first | omega | (simp; done) | (simp; omega) | (simp at *; omega))))))
  have hz3 := hB3.size
  have bx3 := bx2.keep hnn
  replace hp2 := hp2.keep hnn
  have hz23 : w2.heap.size < w3.heap.size := by have := hnn.size; rw [World.size_alloc] at this; omega
  have by3 : Box2 (w3.alloc (.cells #[.int .i64 N, .slice A5 q c5] 33)) w3.heap.size (.int .i64 N) (.slice A5 q c5) := Box2.new _ _ _ _
  have bx3a := bx3.keep (w' := w3.alloc (.cells #[.int .i64 N, .slice A5 q c5] 33)) (by (repeat (first | (with_reducible assumption) | (with_reducible exact Below.refl _ _) | ((with_reducible refine Below.alloc ?_ ?hsz _); (case hsz => (first | omega | (simp; done) | (simp; omega) | (simp at *; omega)))) | ((with_reducible refine Below.setCell ?_ ?hsz _); (case hsz => (first | omega | (simp; done) | (simp; omega) | (simp at *; omega)))) | (with_reducible refine Below.drew ?_) | (with_reducible refine below_drewN ?_ _) | ((with_reducible refine Below.trans ?_ (Below.mono (by with_reducible assumption) ?hsz)); (case hsz => (first | omega | (simp; done) | (simp; omega) | (simp at *; omega)))))))
  replace hp2 := hp2.keep (w' := w3.alloc (.cells #[.int .i64 N, .slice A5 q c5] 33)) (by (repeat (first | (with_reducible assumption) | (with_reducible exact Below.refl _ _) | ((with_reducible refine Below.alloc ?_ ?hsz _); (case hsz => (first | omega | (simp; done) | (simp; omega) | (simp at *; omega)))) | ((with_reducible refine Below.setCell ?_ ?hsz _); (case hsz => (first | omega | (simp; done) | (simp; omega) | (simp at *; omega)))) | (with_reducible refine Below.drew ?_) | (with_reducible refine below_drewN ?_ _) | ((with_reducible refine Below.trans ?_ (Below.mono (by with_reducible assumption) ?hsz)); (case hsz => (first | omega | (simp; done) | (simp; omega) | (simp at *; omega)))))))
  replace hp3 := hp3.keep (w' := w3.alloc (.cells #[.int .i64 N, .slice A5 q c5] 33)) (by (repeat (first | (with_reducible assumption) | (with_reducible exact Below.refl _ _) | ((with_reducible refine Below.alloc ?_ ?hsz _); (case hsz => (first | omega | (simp; done) | (simp; omega) | (simp at *; omega)))) | ((with_reducible refine Below.setCell ?_ ?hsz _); (case hsz => (first | omega | (simp; done) | (simp; omega) | (simp at *; omega)))) | (with_reducible refine Below.drew ?_) | (with_reducible refine below_drewN ?_ _) | ((with_reducible refine Below.trans ?_ (Below.mono (by with_reducible assumption) ?hsz)); (case hsz => (first | omega | (simp; done) | (simp; omega) | (simp at *; omega)))))))
  have hB3a : Below w1.heap.size w1 (w3.alloc (.cells #[.int .i64 N, .slice A5 q c5] 33)) := by (repeat (first | (with_reducible assumption) | (with_reducible exact Below.refl _ _) | ((with_reducible refine Below.alloc ?_ ?hsz _); (case hsz => (first | omega | (simp; done) | (simp; omega) | (simp at *; omega)))) | ((with_reducible refine Below.setCell ?_ ?hsz _); (case hsz => (first | omega | (simp; done) | (simp; omega) | (simp at *; omega)))) | (with_reducible refine Below.drew ?_) | (with_reducible refine below_drewN ?_ _) | ((with_reducible refine Below.trans ?_ (Below.mono (by with_reducible assumption) ?hsz)); (case hsz => (first | omega | (simp; done) | (simp; omega) | (simp at *; omega))))))
  clear hnn bx2 bx3
  obtain ⟨bs, d0, d1, g0, g1⟩ := id bx3a
  obtain ⟨bt, d2, d3, g2, g3⟩ := id by3
  have hN31 : N ≤ 5 ∧ 0 ≤ N := by
    rw [← HN.out.1]
    unfold termNetN
    split
    · rename_i h1
      have := (term_of h1).2.2.2
      omega
    · omega
  go_wp2_with fail
  with_reducible refine (sameNet_any N N _ _ P P _ _ _ hp2 hp3).mono ?_
  rintro e w4 ⟨rfl, hnn⟩
  rw [decide_eq_true (And.intro rfl rfl)]
  have hB34 : Below w3.heap.size w3 w4 := by (repeat (first | (with_reducible assumption) | (with_reducible exact Below.refl _ _) | ((with_reducible refine Below.alloc ?_ ?hsz _); (case hsz => (first | omega | (simp; done) | (simp; omega) | (simp at *; omega)))) | ((with_reducible refine Below.setCell ?_ ?hsz _); (case hsz => (first | omega | (simp; done) | (simp; omega) | (simp at *; omega)))) | (with_reducible refine Below.drew ?_) | (with_reducible refine below_drewN ?_ _) | ((with_reducible refine Below.trans ?_ (Below.mono (by with_reducible assumption) ?hsz)); (case hsz => (first | omega | (simp; done) | (simp; omega) | (simp at *; omega))))))
  have hB4 : Below w1.heap.size w1 w4 := by (repeat (first | (with_reducible assumption) | (with_reducible exact Below.refl _ _) | ((with_reducible refine Below.alloc ?_ ?hsz _); (case hsz => (first | omega | (simp; done) | (simp; omega) | (simp at *; omega)))) | ((with_reducible refine Below.setCell ?_ ?hsz _); (case hsz => (first | omega | (simp; done) | (simp; omega) | (simp at *; omega)))) | (with_reducible refine Below.drew ?_) | (with_reducible refine below_drewN ?_ _) | ((with_reducible refine Below.trans ?_ (Below.mono (by with_reducible assumption) ?hsz)); (case hsz => (first | omega | (simp; done) | (simp; omega) | (simp at *; omega))))))
  have bx4 := bx3a.keep hnn
  have by4 := by3.keep hnn
  replace hp2 := hp2.keep hnn
  replace hp3 := hp3.keep hnn
  clear hnn d0 d1 g0 g1 d2 d3 g2 g3 bx3a by3
  obtain ⟨bs, d0, d1, g0, g1⟩ := id bx4
  obtain ⟨bt, d2, d3, g2, g3⟩ := id by4
  cases b with
  | false =>
    obtain ⟨e1, e2⟩ := termNet_no HB.out
    rw [HN.out.1] at e1
    rw [HN.out.2] at e2
    subst e1
    subst e2
    go_wp2_with fail
    with_reducible refine (sameNet_any 0 0 _ _ [] [] _ _ _ hp2 (Pipes_nil _ 0)).mono ?_
    rintro e w5 ⟨rfl, hnn⟩
    rw [decide_eq_true (And.intro rfl rfl)]
    have hB5 : Below w1.heap.size w1 w5 := by (repeat (first | (with_reducible assumption) | (with_reducible exact Below.refl _ _) | ((with_reducible refine Below.alloc ?_ ?hsz _); (case hsz => (first | omega | (simp; done) | (simp; omega) | (simp at *; omega)))) | ((with_reducible refine Below.setCell ?_ ?hsz _); (case hsz => (first | omega | (simp; done) | (simp; omega) | (simp at *; omega)))) | (with_reducible refine Below.drew ?_) | (with_reducible refine below_drewN ?_ _) | ((with_reducible refine Below.trans ?_ (Below.mono (by with_reducible assumption) ?hsz)); (case hsz => (first | omega | (simp; done) | (simp; omega) | (simp at *; omega))))))
    have hz5 := hB5.size
    clear hnn d0 d1 g0 g1 d2 d3 g2 g3
    go_wp2_with fail
    with_reducible refine (termOk_any _ ts _ _ (hm.keep hB5)).mono ?_
    rintro e w6 ⟨rfl, hnn⟩
    have hB6 : Below w1.heap.size w1 w6 := by (repeat (first | (with_reducible assumption) | (with_reducible exact Below.refl _ _) | ((with_reducible refine Below.alloc ?_ ?hsz _); (case hsz => (first | omega | (simp; done) | (simp; omega) | (simp at *; omega)))) | ((with_reducible refine Below.setCell ?_ ?hsz _); (case hsz => (first | omega | (simp; done) | (simp; omega) | (simp at *; omega)))) | (with_reducible refine Below.drew ?_) | (with_reducible refine below_drewN ?_ _) | ((with_reducible refine Below.trans ?_ (Below.mono (by with_reducible assumption) ?hsz)); (case hsz => (first | omega | (simp; done) | (simp; omega) | (simp at *; omega))))))
    have hzw6 := (hB6).size
    have hnw6 := hnn
    clear hnn
    rw [HB.out]
    go_wp2_with fail
    with_reducible refine (alive_any _).mono ?_
    rintro e w7 ⟨rfl, hnn⟩
    have hB7 : Below w1.heap.size w1 w7 := by (repeat (first | (with_reducible assumption) | (with_reducible exact Below.refl _ _) | ((with_reducible refine Below.alloc ?_ ?hsz _); (case hsz => (first | omega | (simp; done) | (simp; omega) | (simp at *; omega)))) | ((with_reducible refine Below.setCell ?_ ?hsz _); (case hsz => (first | omega | (simp; done) | (simp; omega) | (simp at *; omega)))) | (with_reducible refine Below.drew ?_) | (with_reducible refine below_drewN ?_ _) | ((with_reducible refine Below.trans ?_ (Below.mono (by with_reducible assumption) ?hsz)); (case hsz => (first | omega | (simp; done) | (simp; omega) | (simp at *; omega))))))
    have hzw7 := (hB7).size
    have hnw7 := hnn
    clear hnn
    go_wp2
    (go_ret; exact ⟨rfl, hBw1.trans (Below.mono (by with_reducible assumption) hBw1.size)⟩)
  | true =>
    have HO := Lib.hid (fun k hk h0 => net_order HB.out k hk h0)
    rw [HN.out.2] at HO
    have HND := Lib.hid (net_nodes HB.out)
    rw [HN.out.1] at HND
    have HF := Lib.hid (termNet_free HB.out)
    rw [HN.out.1, HN.out.2] at HF
    have hcl := fun k => countK_le k ts
    have htl : ∀ (kk : Int) (k : Nat), countK kk (ts.take k) ≤ 14 := fun kk k => by
      have h1 := countK_le kk (ts.take k)
      have h2 : (ts.take k).length ≤ ts.length := by simp; omega
      have := HL.out
      omega
    have HTL := Lib.hid htl
    have HS := Lib.hid (fun kk k hk => countK_snoc kk ts k hk)
    obtain ⟨hn5, hn0⟩ := hN31
    clear htl hcl
    go_wp2_with fail
    go_loopw [10, 8, 9] (fun a b c wr => ∃ k : Nat, k ≤ l ∧ a = .int .i64 k ∧ b = .int .i64 (countK 1 (ts.take k)) ∧ c = .int .i64 (countK 0 (ts.take k)) ∧ Below w4.heap.size w4 wr) (fun a _ _ _ => l - (intOf a).toNat)
    case atStart => exact ⟨0, by omega, rfl, by simp [countK], by simp [countK], by (repeat (first | (with_reducible assumption) | (with_reducible exact Below.refl _ _) | ((with_reducible refine Below.alloc ?_ ?hsz _); (case hsz => (first | omega | (simp; done) | (simp; omega) | (simp at *; omega)))) | ((with_reducible refine Below.setCell ?_ ?hsz _); (case hsz => (first | omega | (simp; done) | (simp; omega) | (simp at *; omega)))) | (with_reducible refine Below.drew ?_) | (with_reducible refine below_drewN ?_ _) | ((with_reducible refine Below.trans ?_ (Below.mono (by with_reducible assumption) ?hsz)); (case hsz => (first | omega | (simp; done) | (simp; omega) | (simp at *; omega))))))⟩
    case round =>
      obtain ⟨k, hk, rfl, rfl, rfl, hb⟩ := hrel
      have hbz := hb.size
      have hbw : Below w1.heap.size w1 wr := hB4.trans (hb.mono hB4.size)
      have bxr := bx4.keep hb
      have byr := by4.keep hb
      clear d0 d1 g0 g1 d2 d3 g2 g3
      obtain ⟨bs, d0, d1, g0, g1⟩ := id bxr
      obtain ⟨bt, d2, d3, g2, g3⟩ := id byr
      have h0l := HTL.out 0 k
      have h1l := HTL.out 1 k
      by_cases hlt : k < l
      · have hltT : k < ts.length := by have := HL.out; omega
        obtain ⟨g, rfl, hg1, hg2, c0, c1, c2⟩ := HC.out wr hbw k hltT
        have hs0 := HS.out 0 k hltT
        have hs1 := HS.out 1 k hltT
        by_cases hk0 : ts[k].k = 0
        · obtain ⟨hq, hmo, hco⟩ := HO.out k hltT hk0
          rw [if_pos hk0] at hs0
          rw [if_neg (by omega)] at hs1
          obtain ⟨g', rfl, hg1', hg2', -, -, -, e3, e4⟩ := HC3.out wr (hB34.trans (hb.mono hB34.size)) _ hq
          rw [hmo] at e3
          rw [hco] at e4
          rw [hk0] at c0
          have hqq : countK 0 (ts.take k) < q := by have := HQ.out; omega
          have HSS := Lib.hid (And.intro hs0 hs1)
          generalize countK 0 (ts.take k) = n0 at *
          generalize countK 1 (ts.take k) = n1 at *
          generalize ts[k].h = mh at *
          generalize ts[k].p = mp at *
          have hgr : g < wr.heap.size := by omega
          have hgr' : g' < wr.heap.size := by omega
          clear hs0 hs1 hk0 hmo hco
          have hd5 : decide (q ≤ n0) = false := decide_eq_false (by omega)
          have hd6 : decide ((q : Int) ≤ (n0 : Int)) = false := decide_eq_false (by omega)
          go_wp2_with fail
          refine wp_region_quiet_lit (by kernel_rfl) (by kernel_rfl) ?_
          repeat (go_big_quiet_step (fail))
          refine wpQuiet_nil ?_
          rintro _ ⟨nq, rfl⟩
          have hbq : Below w4.heap.size w4 (wr.drewN nq) := by (repeat (first | (with_reducible assumption) | (with_reducible exact Below.refl _ _) | ((with_reducible refine Below.alloc ?_ ?hsz _); (case hsz => (first | omega | (simp; done) | (simp; omega) | (simp at *; omega)))) | ((with_reducible refine Below.setCell ?_ ?hsz _); (case hsz => (first | omega | (simp; done) | (simp; omega) | (simp at *; omega)))) | (with_reducible refine Below.drew ?_) | (with_reducible refine below_drewN ?_ _) | ((with_reducible refine Below.trans ?_ (Below.mono (by with_reducible assumption) ?hsz)); (case hsz => (first | omega | (simp; done) | (simp; omega) | (simp at *; omega))))))
          clear hd5 hd6 d0 d1 g0 g1 d2 d3 g2 g3 c0 c1 c2 e3 e4
          go_wp2_with fail
          go_roundw
          case rel => exact ⟨k + 1, by omega, by go_num, by rw [HSS.out.2]; go_num, by rw [HSS.out.1]; go_num, hbq⟩
          case measure => simp [intOf]; omega
        · have b0 : (ts[k].k == 0) = false := by simpa using hk0
          rw [if_neg hk0] at hs0
          by_cases hk1 : ts[k].k = 1
          · rw [if_pos hk1] at hs1
            rw [hk1] at c0
            have HSS := Lib.hid (And.intro hs0 hs1)
            generalize countK 0 (ts.take k) = n0 at *
            generalize countK 1 (ts.take k) = n1 at *
            have hgr : g < wr.heap.size := by omega
            clear hs0 hs1 hk0 hk1 b0
            go_wp2_with fail
            go_roundw
            case rel => exact ⟨k + 1, by omega, by go_num, by rw [HSS.out.2]; go_num, by rw [HSS.out.1]; go_num, hb⟩
            case measure => simp [intOf]; omega
          · have b1 : (ts[k].k == 1) = false := by simpa using hk1
            rw [if_neg hk1] at hs1
            have HSS := Lib.hid (And.intro hs0 hs1)
            generalize countK 0 (ts.take k) = n0 at *
            generalize countK 1 (ts.take k) = n1 at *
            generalize ts[k].k = mk at *
            have hgr : g < wr.heap.size := by omega
            clear hs0 hs1 hk0 hk1
            go_wp2_with fail
            go_roundw
            case rel => exact ⟨k + 1, by omega, by go_num, by rw [HSS.out.2]; go_num, by rw [HSS.out.1]; go_num, hb⟩
            case measure => simp [intOf]; omega
      · have hk2 : k = l := by omega
        subst hk2
        have e1 : ts.take k = ts := List.take_of_length_le (by have := HL.out; omega)
        rw [e1] at h1l ⊢
        have e2 := HND.out
        generalize countK 1 ts = n1 at *
        generalize countK 0 ts = n0 at *
        subst e2
        have hp2r := hp2.keep hb
        have HK := Lib.hid e1
        clear e1 hlt
        go_wp2_with fail
        with_reducible refine (freeOk_any _ _ P _ _ hp2r).mono ?_
        rintro e w6 ⟨rfl, hnn⟩
        rw [HF.out]
        have bx6 := bxr.keep hnn
        have hB6 : Below w1.heap.size w1 w6 := hbw.trans (hnn.mono hbw.size)
        clear hnn d0 d1 g0 g1 d2 d3 g2 g3
        obtain ⟨bs, d0, d1, g0, g1⟩ := id bx6
        go_wp2
        (go_ret; exact ⟨rfl, hBw1.trans (Below.mono (by with_reducible assumption) hBw1.size)⟩)

set_option maxRecDepth 100000 in
theorem contract (H : Type) (enc : TypeId × Value → H) (W : World) (base : Nat) (args : Array Value) (ds gs : List (DataW H)) (before : List MemPlace)
    (hval : ∀ (j : Nat) t v, Try.f6.params[j]? = some t → args[j]? = some v → Value.okWide Try.prog W .any base t v)
    (hW : DataW.Whole enc Try.prog Try.f6.params.toList Rows.fnNetOfTermSpec.vars false W args.toList ds gs before) :
    Calls Try.prog 6 args W fun e W' => ∃ v, e = .returned v ∧ Rows.fnNetOfTermSpec.post enc Try.prog Try.f6 false true false false W args v W' := by
  have hW' := hW
  obtain ⟨p, q, hA0, hV, rfl, hfz, hnd⟩ := hW
  have hA : DataW.TrodAll enc Try.prog W 0 (fun _ => true) true Try.f6.params.toList args.toList ds p := hA0
  rw [Try.params6] at hA hval
  obtain ⟨u0, us0, d0, ds0, p0, q0, hargs, rfl, rfl, g0, k0⟩ := trodAll_cons hA
  obtain ⟨rfl, rfl, rfl⟩ := trodAll_nil k0
  obtain rfl : args = #[u0] := by cases args; simp_all
  obtain ⟨rfl, rfl⟩ := trodVars_none hV
  obtain ⟨m0, e0⟩ := g0
  obtain ⟨s0, l0, f0, hh0⟩ := open_arg_bytes e0
  have f0' := one_of_cells Try.underlying22 (hval 0 _ _ rfl rfl) f0
  subst f0'
  refine (walk _ l0 W hh0).mono fun e W' ⟨he, hb⟩ => ?_
  subst he
  exact ⟨_, rfl, law_post Try.kids Try.full (by rw [Try.params6]; decide) rfl rfl Try.underlying4 hW' rfl rfl rfl hb⟩

set_option maxRecDepth 100000 in
theorem lifted (os : Os) (started : os.Started) (H : Type) (enc : TypeId × Value → H) :
    ReturnsInHanded {} Try.checked os 6 .any (Rows.fnNetOfTermSpec.pre6 enc Try.prog Try.f6 Rows.fnNetOfTermRow.domain false) (Rows.fnNetOfTermSpec.post enc Try.prog Try.f6 false true false false) := by
  refine returnsInHanded_of_change (C := Try.checked) Try.own started (by kernel_rfl) Try.func6
    (ChangeSpec.witness6 (enc := enc) (C := Try.checked) false ⟨#[], #[.slice none 0 0], []⟩ 8 (by kernel_rfl) (by kernel_rfl) (by kernel_rfl) (by kernel_rfl)) ?_
  intro W base args ds gs before hval0 hW _ _
  exact contract H enc W base args ds gs before hval0 hW

theorem proved : Rows.FnNetOfTermSaid :=
  OpenClaim.holds_of_wide 6 Try.f6 rfl rfl rfl rfl rfl rfl rfl ⟨rfl, rfl, rfl, rfl, rfl⟩ rfl rfl rfl rfl rfl (by kernel_rfl) Try.func6 (by kernel_rfl)
    (of_decide_eq_true (by kernel_rfl)) (by unfold Func.isWrapper; first | (rw [if_pos (by decide +kernel)]; kernel_rfl) | (rw [if_neg (by decide +kernel)]; exact ⟨rfl, rfl⟩))
    (fun os started H enc _ => lifted os started H enc)

end Go.Proofs.Ytnefafpfeagflaa.lawNetOfTerm
