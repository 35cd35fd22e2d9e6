/- Contracts of the functions of chapter 6 in the model: PricesFor. -/
import Derived.Test.YthkidcipimfkfaaI3
import Derived.Test.YthkidcipimfkfaaK5
import Derived.Test.YthkidcipimfkfaaRW
namespace Go.Proofs.Ythkidcipimfkfaa
open Go.RowKit

theorem set_same' (P : List Int) (e : Nat) : P.set e (P.getD e 0) = P := by
  by_cases h : e < P.length
  · rw [List.getD_eq_getElem?_getD, List.getElem?_eq_getElem h, Option.getD_some, List.set_getElem_self]
  · rw [List.set_eq_of_length_le (by omega)]

/-- what the operations of a price yield -/
def prV (nv : Value) (g N a e k : Nat) (pe pa co mn : Int) : Nat → Value → Prop
  | 0, x => x = .slice (some ⟨g, 0, none⟩) N N
  | 1, x => x = .int .i64 e
  | 2, x => x = .slice (some ⟨g, 0, none⟩) N N
  | 3, x => x = .int .i64 e
  | 4, x => x = .pointer (some ⟨g, e, none⟩)
  | 5, x => x = .int .i64 pe
  | 6, x => x = .slice (some ⟨g, 0, none⟩) N N
  | 7, x => x = .int .i64 a
  | 8, x => x = .pointer (some ⟨g, a, none⟩)
  | 9, x => x = .int .i64 pa
  | 10, x => x = nv
  | 11, x => x = .int .i64 k
  | 12, x => x = .int .i64 co
  | 13, x => x = .int .i64 (pa + co)
  | 14, x => x = .int .i64 mn
  | 15, x => x = .pointer (some ⟨g, e, none⟩)
  | _, _ => True

theorem prcF_yes {ps : List Pp} {xs : List Int} {P : List Int} {k : Nat} (h : openF ps xs k = true) : prcL ps (opens ps xs (k + 1)) P = prc1 ps (prcL ps (opens ps xs k) P) k := by
  rw [opens_yes h, prcL, List.foldl_append]; rfl
theorem prcF_no {ps : List Pp} {xs : List Int} {P : List Int} {k : Nat} (h : openF ps xs k = false) : prcL ps (opens ps xs (k + 1)) P = prcL ps (opens ps xs k) P := by
  rw [opens_no h]

theorem opens_st {ps : List Pp} {xs : List Int} {k : Nat} (hk : k ≤ 2 * ps.length) : ∀ s ∈ opens ps xs k, s ∈ stL ps xs := by
  intro s hs
  simp only [opens, List.mem_filter, List.mem_range] at hs
  rw [stL_mem]
  have h := hs.2
  simp only [openF, decide_eq_true_eq] at h
  exact ⟨by omega, h⟩

/-- prices are bounded -/
theorem prcL_bd' {n : Nat} {ps : List Pp} {S : List Nat} (hS : insS n ps S) (hc : ∀ p ∈ ps, -9 ≤ p.co ∧ p.co ≤ 9) {m : Int} {F : List Nat} : ∀ {P : List Int}, (∀ s ∈ F, s ∈ S) → P.length = n → (∀ v, -m ≤ P.getD v 0 ∧ P.getD v 0 ≤ m) → 0 ≤ m → ∀ v, -(m + 9 * (F.length : Int)) ≤ (prcL ps F P).getD v 0 ∧ (prcL ps F P).getD v 0 ≤ m := by
  induction F generalizing m with
  | nil => intro P _ _ h _ v; have := h v; simpa [prcL] using this
  | cons s F ih =>
    intro P hF hl h h0 v
    obtain ⟨h1, h2, h3, h4⟩ := hS s (hF s (by simp))
    have hto : (stTo ps s).toNat < P.length := by omega
    have hco := stCo_bd hc h1
    have e : prcL ps (s :: F) P = prcL ps F (prc1 ps P s) := rfl
    have hlow := prcL_low (F := F) (P := prc1 ps P s) hS (fun t ht => hF t (by simp [ht])) (by rw [prc1_len]; exact hl)
    have hnew : ∀ v, -(m + 9) ≤ (prc1 ps P s).getD v 0 ∧ (prc1 ps P s).getD v 0 ≤ m + 9 := by
      intro v
      rw [prc1_get hto]
      have a := h v
      have b := h (stFr ps s).toNat
      split <;> omega
    have := ih (m := m + 9) (P := prc1 ps P s) (fun t ht => hF t (by simp [ht])) (by rw [prc1_len]; exact hl) hnew (by omega) v
    rw [e]
    have h5 := hlow.1 v
    have h6 := prc1_le (P := P) hto v
    have h7 := h v
    simp only [List.length_cons]
    push_cast
    omega

theorem opens_len (ps : List Pp) (xs : List Int) (k : Nat) : (opens ps xs k).length ≤ k := by
  unfold opens
  have := List.length_filter_le (openF ps xs) (List.range k)
  simpa using this

theorem prcN_bd' {n : Nat} {ps : List Pp} {xs : List Int} (hS : insS n ps (stL ps xs)) (hc : ∀ p ∈ ps, -9 ≤ p.co ∧ p.co ≤ 9) (h7 : ps.length ≤ 7) (r : Nat) : ∀ v, -(126 * (r : Int)) ≤ (prcN ps (stL ps xs) n r).getD v 0 ∧ (prcN ps (stL ps xs) n r).getD v 0 ≤ 0 := by
  induction r with
  | zero =>
    intro v
    simp only [prcN, List.getD_eq_getElem?_getD]
    rw [List.getElem?_replicate]
    split <;> simp
  | succ r ih =>
    intro v
    have h1 := prcL_bd' (F := stL ps xs) (m := 126 * (r : Int)) hS hc (P := prcN ps (stL ps xs) n r) (fun _ h => h) (prcN_len _ _ _ _) (fun v => by have := ih v; omega) (by omega) v
    have h2 := (prcL_low (P := prcN ps (stL ps xs) n r) hS (fun _ h => h) (prcN_len _ _ _ _)).1 v
    have h3 := ih v
    have h4 := opens_len ps xs (2 * ps.length)
    rw [opens_all] at h4
    rw [prcN]
    push_cast
    omega

set_option maxHeartbeats 4000000 in
set_option maxRecDepth 20000 in
theorem specPricesFor_any (n : Int) (v u : Value) (ps : List Pp) (xs : List Int) (b b' : Nat) (w : World) (hp : Pipes w b v ps) (hx : Ints w b' u xs) :
    Calls Try.prog 42 #[.agg #[.int .i64 n, v], u] w fun e w' => ∃ r, e = .returned (.tuple #[r, .bool (pricedB n ps xs)]) ∧ Ints w' w.heap.size r (priceR n ps xs) ∧ Below w.heap.size w w' := by
  have hp0 := hp
  have hx0 := hx
  obtain ⟨A, c, rfl, -, -, -, -⟩ := hp.form
  obtain ⟨A', c', rfl, -, -, -, -⟩ := hx.form
  have bx0 := Box2.new w (.int .i64 n) (.slice A ps.length c) 31
  go_enter Try.func42, Try.ntmps42
  go_wp2_with fail
  with_reducible refine (specGainOf_any n _ _ ps xs b b' _ (hp0.keep (by (repeat (first | (with_reducible assumption) | (with_reducible exact Below.refl _ _) | ((with_reducible refine Below.alloc ?_ ?hsz _); (case hsz => (first | omega | (simp; done) | (simp; omega) | (simp at *; omega)))) | ((with_reducible refine Below.setCell ?_ ?hsz _); (case hsz => (first | omega | (simp; done) | (simp; omega) | (simp at *; omega)))) | (with_reducible refine Below.drew ?_) | (with_reducible refine below_drewN ?_ _) | ((with_reducible refine Below.trans ?_ (Below.mono (by with_reducible assumption) ?hsz)); (case hsz => (first | omega | (simp; done) | (simp; omega) | (simp at *; omega)))))))) (hx0.keep (by (repeat (first | (with_reducible assumption) | (with_reducible exact Below.refl _ _) | ((with_reducible refine Below.alloc ?_ ?hsz _); (case hsz => (first | omega | (simp; done) | (simp; omega) | (simp at *; omega)))) | ((with_reducible refine Below.setCell ?_ ?hsz _); (case hsz => (first | omega | (simp; done) | (simp; omega) | (simp at *; omega)))) | (with_reducible refine Below.drew ?_) | (with_reducible refine below_drewN ?_ _) | ((with_reducible refine Below.trans ?_ (Below.mono (by with_reducible assumption) ?hsz)); (case hsz => (first | omega | (simp; done) | (simp; omega) | (simp at *; omega))))))))).mono ?_
  rintro e w1 ⟨r1, rfl, hr1, hb1⟩
  have bx1 := bx0.keep hb1
  have hB1 : Below w.heap.size w w1 := by (repeat (first | (with_reducible assumption) | (with_reducible exact Below.refl _ _) | ((with_reducible refine Below.alloc ?_ ?hsz _); (case hsz => (first | omega | (simp; done) | (simp; omega) | (simp at *; omega)))) | ((with_reducible refine Below.setCell ?_ ?hsz _); (case hsz => (first | omega | (simp; done) | (simp; omega) | (simp at *; omega)))) | (with_reducible refine Below.drew ?_) | (with_reducible refine below_drewN ?_ _) | ((with_reducible refine Below.trans ?_ (Below.mono (by with_reducible assumption) ?hsz)); (case hsz => (first | omega | (simp; done) | (simp; omega) | (simp at *; omega))))))
  have hz1 := hB1.size
  clear bx0 hb1
  obtain ⟨bs, d0, d1, -, -⟩ := id bx1
  obtain ⟨A1, c1, rfl, -, -, -, -⟩ := hr1.form
  obtain ⟨L1, hL1⟩ : ∃ L, (gainI n ps xs).length = L := ⟨_, rfl⟩
  obtain ⟨gb, hgb⟩ : ∃ gb, gainsB n ps xs = gb := ⟨_, rfl⟩
  rw [hL1, hgb]
  clear hr1 hL1
  go_wp2_with fail
  with_reducible refine (specHoldsOk_any n _ _ ps xs b b' _ (hp0.keep hB1) (hx0.keep hB1)).mono ?_
  rintro e w2 ⟨rfl, hb2⟩
  have bx2 := bx1.keep hb2
  have hB2 : Below w.heap.size w w2 := by (repeat (first | (with_reducible assumption) | (with_reducible exact Below.refl _ _) | ((with_reducible refine Below.alloc ?_ ?hsz _); (case hsz => (first | omega | (simp; done) | (simp; omega) | (simp at *; omega)))) | ((with_reducible refine Below.setCell ?_ ?hsz _); (case hsz => (first | omega | (simp; done) | (simp; omega) | (simp at *; omega)))) | (with_reducible refine Below.drew ?_) | (with_reducible refine below_drewN ?_ _) | ((with_reducible refine Below.trans ?_ (Below.mono (by with_reducible assumption) ?hsz)); (case hsz => (first | omega | (simp; done) | (simp; omega) | (simp at *; omega))))))
  have hz2 := hB2.size
  clear bx1 hb2 d0 d1 bs
  obtain ⟨bs, d0, d1, -, -⟩ := id bx2
  have hlt2 := bs
  by_cases hh : holdsB n ps xs = true
  · rw [hh]
    cases gb with
    | true =>
      have Hw : Hid (pricedB n ps xs = false) := Lib.hid (by simp [pricedB, hgb])
      clear hgb hh
      go_wp2
      go_ret2
      exact ⟨_, ret_vb Hw.out.symm, by rw [priceR, if_neg (by rw [Hw.out]; simp)]; exact ints_empty6 _ hz2 rfl, by (repeat (first | (with_reducible assumption) | (with_reducible exact Below.refl _ _) | ((with_reducible refine Below.alloc ?_ ?hsz _); (case hsz => (first | omega | (simp; done) | (simp; omega) | (simp at *; omega)))) | ((with_reducible refine Below.setCell ?_ ?hsz _); (case hsz => (first | omega | (simp; done) | (simp; omega) | (simp at *; omega)))) | (with_reducible refine Below.drew ?_) | (with_reducible refine below_drewN ?_ _) | ((with_reducible refine Below.trans ?_ (Below.mono (by with_reducible assumption) ?hsz)); (case hsz => (first | omega | (simp; done) | (simp; omega) | (simp at *; omega))))))⟩
    | false =>
      have Hw : Hid (pricedB n ps xs = true) := Lib.hid (by simp [pricedB, hgb, hh])
      have hn := holds_net hh
      obtain ⟨n2, n5, hl7, -⟩ := netOk_parts hn
      obtain ⟨hf, -, hlen⟩ := holds_parts hh
      have HB := Lib.hid (And.intro hlen (And.intro (flowOk_parts hf).2.2 (And.intro (net_rooms hn) (net_costs hn))))
      have hins := stL_ins hn xs
      obtain ⟨N, rfl⟩ := Int.eq_ofNat_of_zero_le (show 0 ≤ n by omega)
      rw [Int.toNat_natCast] at hins
      have HI := Lib.hid hins
      have HE := Lib.hid (fun (s : Nat) (hs : s < 2 * ps.length) => st_ends hn hs)
      have hN5 : N ≤ 5 := by omega
      have hN2 : 2 ≤ N := by omega
      have hmk := fun W => run_make_ints (n := N) (by omega) W
      have hmade := Ints_made w2 (n := N) (b := w2.heap.size) (g := w2.heap.size) (Nat.le_refl _) (by omega) rfl
      obtain ⟨gl, cl, hv, hR0⟩ := hmade.row (by simp; omega)
      rw [List.length_replicate] at hv hR0
      injection hv with hv1 hv2 hv3
      injection hv1 with hv1
      injection hv1 with hv1
      subst hv1
      subst hv3
      have HR0 := Lib.hid hR0
      have bx3 := bx2.keep ((Below.refl w2.heap.size w2).alloc (Nat.le_refl _) (.cells (madeCells #[.int .i64 0] N) 3))
      have hB3 : Below w.heap.size w (w2.alloc (.cells (madeCells #[.int .i64 0] N) 3)) := by (repeat (first | (with_reducible assumption) | (with_reducible exact Below.refl _ _) | ((with_reducible refine Below.alloc ?_ ?hsz _); (case hsz => (first | omega | (simp; done) | (simp; omega) | (simp at *; omega)))) | ((with_reducible refine Below.setCell ?_ ?hsz _); (case hsz => (first | omega | (simp; done) | (simp; omega) | (simp at *; omega)))) | (with_reducible refine Below.drew ?_) | (with_reducible refine below_drewN ?_ _) | ((with_reducible refine Below.trans ?_ (Below.mono (by with_reducible assumption) ?hsz)); (case hsz => (first | omega | (simp; done) | (simp; omega) | (simp at *; omega))))))
      clear hn hf hlen hh hins hgb hmade hR0 hv2
      go_wp2_with fail
      go_loopw [9] (fun i wr => ∃ r : Nat, r ≤ N ∧ i = .int .i64 r ∧ Row wr w2.heap.size w2.heap.size N N (prcN ps (stL ps xs) N r) ∧ Box2 wr w.heap.size (.int .i64 N) (.slice A ps.length c) ∧ Below w.heap.size w wr) (fun i _ => N - (intOf i).toNat)
      case atStart => exact ⟨0, by omega, rfl, HR0.out, bx3, hB3⟩
      case round =>
        obtain ⟨r, hr, rfl, hR, bx, hB⟩ := hrel
        clear bx2 bx3 d0 d1 bs HR0 hB3
        obtain ⟨bs, d0, d1, -, -⟩ := id bx
        have hzb := hB.size
        by_cases hltN : r < N
        · have Hbd := Lib.hid (prcN_bd' HI.out HB.out.2.2.2 hl7 r)
          have hdlt : decide ((r : Int) < (N : Int)) = true := decide_eq_true (by omega)
          have HlN := Lib.hid hltN
          have hP : (prcN ps (stL ps xs) N r).length = N := prcN_len _ _ _ _
          generalize hPd : prcN ps (stL ps xs) N r = P at *
          have HPd := Lib.hid hPd
          have HP := Lib.hid hP
          clear hPd hP
          go_wp2_with fail
          clear hltN
          go_loopw [10] (fun t wr => ∃ k : Nat, k ≤ 2 * ps.length ∧ t = .int .i64 k ∧ Row wr w2.heap.size w2.heap.size N N (prcL ps (opens ps xs k) P) ∧ Box2 wr w.heap.size (.int .i64 N) (.slice A ps.length c) ∧ Below w.heap.size w wr) (fun t _ => 2 * ps.length - (intOf t).toNat)
          case atStart => exact ⟨0, by omega, rfl, hR, bx, hB⟩
          case round =>
            clear hR bx hB d0 d1 bs hzb
            obtain ⟨k, hk, rfl, hR, bx, hB⟩ := hrel
            obtain ⟨bs, d0, d1, -, -⟩ := id bx
            have hzb := hB.size
            by_cases hlt : k < 2 * ps.length
            · obtain ⟨⟨f0, f1⟩, ⟨t0, t1⟩, -⟩ := HE.out k hlt
              obtain ⟨a, ha⟩ : ∃ a : Nat, stFr ps k = (a : Int) := ⟨(stFr ps k).toNat, by omega⟩
              obtain ⟨e, he⟩ : ∃ e : Nat, stTo ps k = (e : Int) := ⟨(stTo ps k).toNat, by omega⟩
              rw [ha] at f0 f1
              rw [he] at t0 t1
              have haN : a < N := by omega
              have heN : e < N := by omega
              obtain ⟨co, hcoe⟩ : ∃ co, stCo ps k = co := ⟨_, rfl⟩
              have hco := stCo_bd HB.out.2.2.2 hlt
              rw [hcoe] at hco
              obtain ⟨hco1, hco2⟩ := hco
              obtain ⟨rm, hrm⟩ : ∃ rm, stRoom ps xs k = rm := ⟨_, rfl⟩
              have hpb := prcL_bd' (F := opens ps xs k) (m := 630) HI.out HB.out.2.2.2 (P := P) (opens_st hk) HP.out (fun v => by have := Hbd.out v; omega) (by omega)
              have hk14 := opens_len ps xs k
              have Hy : Hid (openF ps xs k = true → prcL ps (opens ps xs (k + 1)) P = (prcL ps (opens ps xs k) P).set e (min ((prcL ps (opens ps xs k) P).getD e 0) ((prcL ps (opens ps xs k) P).getD a 0 + co))) := Lib.hid fun h => by
                rw [prcF_yes h, prc1, ha, he, Int.toNat_natCast, Int.toNat_natCast, hcoe]
              have Hn : Hid (openF ps xs k = false → prcL ps (opens ps xs (k + 1)) P = prcL ps (opens ps xs k) P) := Lib.hid prcF_no
              generalize hQ : prcL ps (opens ps xs k) P = Q at *
              obtain ⟨pa, hpa⟩ : ∃ x, Q.getD a 0 = x := ⟨_, rfl⟩
              obtain ⟨pe, hpe⟩ : ∃ x, Q.getD e 0 = x := ⟨_, rfl⟩
              have ba := hpb a
              have be := hpb e
              rw [hpa] at ba
              rw [hpe] at be
              have ba2 : -2000 ≤ pa ∧ pa ≤ 2000 := by omega
              have be2 : -2000 ≤ pe ∧ pe ≤ 2000 := by omega
              rw [hpa, hpe] at Hy
              have HQe : Hid (Q.set e pe = Q) := Lib.hid (by rw [← hpe]; exact set_same' Q e)
              have HEq := Lib.hid (And.intro ha (And.intro he (And.intro hcoe hrm)))
              obtain ⟨ba3, ba4⟩ := ba2
              obtain ⟨be3, be4⟩ := be2
              clear ba be hpb f0 f1 t0 t1 hQ hk14 hcoe ha he
              go_wp2_with fail
              with_reducible refine (specStep_any k (N : Int) _ _ ps xs b b' _ (hp0.keep hB) (hx0.keep hB) hlt HB.out.1 HB.out.2.1 HB.out.2.2.1).mono ?_
              rintro ee w4 ⟨rfl, hb4⟩
              rw [HEq.out.1, HEq.out.2.1, HEq.out.2.2.2]
              have hR4 := hR.keep hb4
              have bx4 := bx.keep hb4
              have hB4 := hB.trans (hb4.mono hzb)
              have hz4 := hB4.size
              clear hR bx hB d0 d1 bs hb4
              obtain ⟨bs, d0, d1, -, -⟩ := id bx4
              by_cases ho : 0 < rm
              · have hdo : decide (0 < rm) = true := decide_eq_true ho
                have hop : openF ps xs k = true := by rw [openF, hrm]; exact hdo
                have Hset := Lib.hid (Hy.out hop)
                clear ho hop hrm
                obtain ⟨y0, -⟩ := hR4.at' a haN
                obtain ⟨z0, z1⟩ := hR4.at' e heN
                rw [hpa] at y0
                rw [hpe] at z0
                have hglr := hR4.lt
                go_wp2_with fail
                obtain ⟨mn, hmn⟩ : ∃ mn, min pe (pa + co) = mn := ⟨_, rfl⟩
                refine wp_region_flowL 17 none [(0, 55), (1, 56), (2, 57), (3, 58), (4, 59), (5, 60), (6, 61), (7, 62), (8, 63), (9, 64), (10, 65), (11, 66), (12, 67), (13, 68), (14, 69), (15, 70)] (fun j x _ wx => if j = 16 then (∃ wy, Below w4.heap.size w4 wy ∧ wx = wy.setCell ⟨w2.heap.size, e, none⟩ (.int .i64 mn)) else prV (.agg #[.int .i64 N, .slice A ps.length c]) w2.heap.size N a e k pe pa co mn j x) (fun _ _ _ => True) (fun f wx => (Below w4.heap.size w4 wx ∨ (f = 0 ∧ ∃ wy, Below w4.heap.size w4 wy ∧ wx = wy.setCell ⟨w2.heap.size, e, none⟩ (.int .i64 mn)))) (by kernel_rfl) (by kernel_rfl) rfl (.inl ⟨rfl, rfl, rfl, Nat.le_refl _, fun _ _ => rfl⟩) ?_ ?_ ?_ ?_
                · intro i j hi hj hal x u wx wy _ hV
                  have hi' : i < 17 := hi
                  by_cases h16 : j = 16
                  · subst h16
                    exfalso
                    rcases i with _ | _ | _ | _ | _ | _ | _ | _ | _ | _ | _ | _ | _ | _ | _ | _ | _ | i
                    all_goals first | (revert hal; decide) | omega
                  · rw [if_neg h16] at hV ⊢
                    exact hV
                · exact fun _ _ _ _ _ _ _ h => h
                · simp only [eachOp, fillF, List.setIfInBounds_toArray, List.set_cons_succ, List.set_cons_zero]
                  refine ⟨?_, ?_, ?_, ?_, ?_, ?_, ?_, ?_, ?_, ?_, ?_, ?_, ?_, ?_, ?_, ?_, ?_, trivial⟩ <;> intro u f wx hC hd hf <;> (try simp [allV, useOf, Region.binds] at hd) <;> replace hC := hC.resolve_right (fun h => by have := h.1; omega)
                  · go_wp2
                    exact ⟨_, rfl, rfl, trivial, .inl hC⟩
                  · go_wp2
                    exact ⟨_, rfl, rfl, trivial, .inl hC⟩
                  · go_wp2
                    exact ⟨_, rfl, rfl, trivial, .inl hC⟩
                  · go_wp2
                    exact ⟨_, rfl, rfl, trivial, .inl hC⟩
                  · rw [show u 2 = _ from hd.1, show u 3 = _ from hd.2]
                    go_wp2
                    exact ⟨_, rfl, rfl, trivial, .inl hC⟩
                  · rw [show u 4 = _ from hd]
                    have e1 := (bel_cell hC hglr.2).trans z0
                    go_wp2
                    exact ⟨_, rfl, rfl, trivial, .inl hC⟩
                  · go_wp2
                    exact ⟨_, rfl, rfl, trivial, .inl hC⟩
                  · go_wp2
                    exact ⟨_, rfl, rfl, trivial, .inl hC⟩
                  · rw [show u 6 = _ from hd.1, show u 7 = _ from hd.2]
                    go_wp2
                    exact ⟨_, rfl, rfl, trivial, .inl hC⟩
                  · rw [show u 8 = _ from hd]
                    have e1 := (bel_cell hC hglr.2).trans y0
                    go_wp2
                    exact ⟨_, rfl, rfl, trivial, .inl hC⟩
                  · have e0 := (bel_cell hC bs).trans d0
                    have e1 := (bel_cell hC bs).trans d1
                    go_wp2
                    exact ⟨_, rfl, rfl, trivial, .inl hC⟩
                  · go_wp2
                    exact ⟨_, rfl, rfl, trivial, .inl hC⟩
                  · rw [show u 10 = _ from hd.1, show u 11 = _ from hd.2]
                    go_wp2_with fail
                    refine (l6Cost_any k (N : Int) _ ps b wx (hp0.keep (hB4.trans (hC.mono hz4))) hlt HB.out.2.2.2).mono ?_
                    rintro ee w5 ⟨rfl, hb5⟩
                    rw [HEq.out.2.2.1]
                    go_wp2
                    exact ⟨_, rfl, rfl, trivial, .inl (hC.trans (hb5.mono hC.size))⟩
                  · rw [show u 9 = _ from hd.1, show u 12 = _ from hd.2]
                    go_wp2
                    exact ⟨_, rfl, rfl, trivial, .inl hC⟩
                  · rw [show u 5 = _ from hd.1, show u 13 = _ from hd.2]
                    by_cases hm : pe ≤ pa + co
                    · have hmm : mn = pe := by rw [← hmn]; exact Int.min_eq_left hm
                      subst hmm
                      clear hmn
                      go_wp2
                      exact ⟨_, rfl, rfl, trivial, .inl hC⟩
                    · have hmm : mn = pa + co := by rw [← hmn]; exact Int.min_eq_right (by omega)
                      subst hmm
                      clear hmn
                      go_wp2
                      exact ⟨_, rfl, rfl, trivial, .inl hC⟩
                  · rw [show u 0 = _ from hd.1, show u 1 = _ from hd.2]
                    go_wp2
                    exact ⟨_, rfl, rfl, trivial, .inl hC⟩
                  · have hf0 : f = 0 := Nat.le_zero.1 (Nat.le_trans hf.2 (by decide))
                    have h14 : u 14 = .int .i64 mn := by first | exact hd.1 | exact hd.2
                    have h15 : u 15 = .pointer (some ⟨w2.heap.size, e, none⟩) := by first | exact hd.2 | exact hd.1
                    rw [h14, h15]
                    have y1 := (bel_cell hC hglr.2).trans z0
                    have y2 := (hC.frozen (p := ⟨w2.heap.size, e, none⟩) hglr.2).trans z1
                    go_wp2
                    exact ⟨undef, rfl, ⟨wx, hC, rfl⟩, trivial, .inr ⟨hf0, wx, hC, rfl⟩⟩
                · intro u f wx hC hfin
                  obtain ⟨wy, hby, rfl⟩ : ∃ wy, Below w4.heap.size w4 wy ∧ wx = wy.setCell ⟨w2.heap.size, e, none⟩ (.int .i64 mn) := hfin 16 (by decide) (by decide)
                  simp only [fillEnd, fillF, Act.put, List.setIfInBounds_toArray, List.set_cons_succ, List.set_cons_zero]
                  have hR5 : Row (wy.setCell ⟨w2.heap.size, e, none⟩ (.int .i64 mn)) w2.heap.size w2.heap.size N N (prcL ps (opens ps xs (k + 1)) P) := by
                    rw [Hset.out, hmn]
                    exact (hR4.keep hby).set e mn
                  have bx5 : Box2 (wy.setCell ⟨w2.heap.size, e, none⟩ (.int .i64 mn)) w.heap.size (.int .i64 N) (.slice A ps.length c) := (bx4.keep hby).far (by show w2.heap.size ≠ w.heap.size; omega) _
                  have hB5 : Below w.heap.size w (wy.setCell ⟨w2.heap.size, e, none⟩ (.int .i64 mn)) := (hB4.trans (hby.mono hz4)).setCell hz2 _
                  have HR5 := Lib.hid hR5
                  generalize wy.setCell ⟨w2.heap.size, e, none⟩ (.int .i64 mn) = wn at *
                  clear hC hfin hR5 hby y0 z0 z1 d0 d1 bs hR4 hB4 bx4 hglr hmn
                  go_wp2
                  go_roundw
                  case rel => exact ⟨k + 1, by omega, by go_num, HR5.out, bx5, hB5⟩
                  case measure => simp [intOf]; omega
              · have hdo : decide (0 < rm) = false := decide_eq_false ho
                have hop : openF ps xs k = false := by rw [openF, hrm]; exact hdo
                have Hset := Lib.hid (Hn.out hop)
                clear ho hop hrm
                go_wp2
                go_roundw
                case rel => exact ⟨k + 1, by omega, by go_num, by rw [Hset.out]; exact hR4, bx4, hB4⟩
                case measure => simp [intOf]; omega
            · have hkk : k = 2 * ps.length := by omega
              subst hkk
              rw [opens_all] at hR
              have hR9 : Row wr w2.heap.size w2.heap.size N N (prcN ps (stL ps xs) N (r + 1)) := by
                rw [prcN, HPd.out]; exact hR
              go_wp2
              go_roundw
              case rel => exact ⟨r + 1, by have := HlN.out; omega, by go_num, hR9, bx, hB⟩
              case measure => have := HlN.out; simp [intOf]; omega
        · have hrN : r = N := by omega
          subst hrN
          have Hr : Hid (priceR (r : Int) ps xs = prcN ps (stL ps xs) r r) := Lib.hid (by rw [priceR, if_pos Hw.out, Int.toNat_natCast])
          go_wp2
          go_ret2
          exact ⟨_, ret_vb Hw.out.symm, by rw [Hr.out]; exact hR.ints.mono hz2, hB⟩
  · have hh' : holdsB n ps xs = false := by simpa using hh
    rw [hh']
    have Hw : Hid (pricedB n ps xs = false) := Lib.hid (by simp [pricedB, hh'])
    clear hh hh' hgb
    go_wp2
    go_ret2
    exact ⟨_, ret_vb Hw.out.symm, by rw [priceR, if_neg (by rw [Hw.out]; simp)]; exact ints_empty6 _ hz2 rfl, by (repeat (first | (with_reducible assumption) | (with_reducible exact Below.refl _ _) | ((with_reducible refine Below.alloc ?_ ?hsz _); (case hsz => (first | omega | (simp; done) | (simp; omega) | (simp at *; omega)))) | ((with_reducible refine Below.setCell ?_ ?hsz _); (case hsz => (first | omega | (simp; done) | (simp; omega) | (simp at *; omega)))) | (with_reducible refine Below.drew ?_) | (with_reducible refine below_drewN ?_ _) | ((with_reducible refine Below.trans ?_ (Below.mono (by with_reducible assumption) ?hsz)); (case hsz => (first | omega | (simp; done) | (simp; omega) | (simp at *; omega))))))⟩

end Go.Proofs.Ythkidcipimfkfaa
