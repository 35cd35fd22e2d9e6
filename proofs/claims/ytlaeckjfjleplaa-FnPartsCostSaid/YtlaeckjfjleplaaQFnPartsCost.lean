/- FnPartsCost: for every code the law holds: the amounts of all parts of a flow, each times the costs of its pipes together, are together the cost of the flow. No condition. -/
import Derived.Test.YtlaeckjfjleplaaL2
import Derived.Test.YtlaeckjfjleplaaNB
import Derived.Test.YtlaeckjfjleplaaG7
import Derived.Test.YtlaeckjfjleplaaG8
import Derived.Test.YtlaeckjfjleplaaG6
import Derived.Test.YtlaeckjfjleplaaH1
import Derived.Test.YtlaeckjfjleplaaGK
namespace Go.Proofs.Ytlaeckjfjleplaa.lawPartsCost
open Go.ChangeShapes Go.WideShapes Go.ChangeAt Go.RowKit Go.Deep Go.Joins

theorem parts_all {z i j : Int} {ps : List Pp} {xs : List Int} (h : partsOkB z ps xs i j = true) :
    (∀ L ∈ partsR z ps xs i j, ∃ d l, L = d :: natsI l ∧ 1 ≤ d ∧ d ≤ 40 ∧ placesB ps (natsI l) = true) ∧ takenL xs.length (partsR z ps xs i j) = xs ∧ flowOkB z ps xs = true := by
  obtain ⟨hst, h0⟩ := PartSt.of h
  obtain ⟨hn, hlen, -⟩ := flowOk_parts hst.flow
  have hxb := flow_getD hst.flow
  have hpos : posN xs ≤ 7 := by have := pos_le (xs := xs); have := (netOk_parts hn).2.2.1; omega
  obtain ⟨p1, p2, p3⟩ := parts_sum 10 (exc j ps xs) xs (List.replicate ps.length 0) hst h0 (by unfold leftN2; split <;> omega) (by simp) (fun i => by
    have e : (List.replicate ps.length (0 : Int)).getD i 0 = 0 := by
      rw [List.getD_eq_getElem?_getD, List.getElem?_replicate]
      split <;> rfl
    rw [e]
    have := hxb i
    omega)
  rw [← parts_yes h] at p1 p2 p3
  refine ⟨fun L hL => ?_, ?_, hst.flow⟩
  · obtain ⟨d, l, e, d1, d2, hk⟩ := p3 L hL
    refine ⟨d, l, e, d1, d2, ?_⟩
    rcases hk with hk | hk
    · by_cases hp : placesB ps (natsI l) = true
      · exact hp
      · rw [ring_no3 (by simpa using hp)] at hk; cases hk
    · by_cases hp : placesB ps (natsI l) = true
      · exact hp
      · have hw := walk_no3 (n := z) (show placesB ps (natsI l) = false by simpa using hp)
        simp [threadB, hw] at hk
  · rw [hlen]
    exact taken_is p1 hlen

theorem take1_set {N x : Nat} {a : Int} {o : List Int} (hx : x < N) (h0 : 0 ≤ o.getD x 0) (h1 : o.getD x 0 ≤ 10000) (a0 : 0 ≤ a) (a1 : a ≤ 40) : take1 N a o x = o.set x (o.getD x 0 + a) := by
  rw [take1, if_pos ⟨by omega, by omega⟩, Int.toNat_natCast, IntWalk.wrap64_in _ (by omega)]

theorem take1_bd {N x : Nat} {a B : Int} {o : List Int} (hx : x < N) (ho : o.length = N) (h : ∀ i, 0 ≤ o.getD i 0 ∧ o.getD i 0 ≤ B) (hB : B ≤ 10000) (a0 : 0 ≤ a) (a1 : a ≤ 40) : ∀ i, 0 ≤ (take1 N a o x).getD i 0 ∧ (take1 N a o x).getD i 0 ≤ B + 40 := by
  intro i
  have hxb := h x
  have hib := h i
  rw [take1_set hx hxb.1 (by omega) a0 a1, getD_set _ _ _ _ _ (by omega)]
  split <;> omega

theorem cost_bd {ps : List Pp} {o : List Int} {B : Int} (hc : ∀ p ∈ ps, -9 ≤ p.co ∧ p.co ≤ 9) (h : ∀ i, 0 ≤ o.getD i 0 ∧ o.getD i 0 ≤ B) (hB : 0 ≤ B) : -(9 * B * (ps.length : Int)) ≤ costS ps o ∧ costS ps o ≤ 9 * B * (ps.length : Int) := by
  induction ps generalizing o with
  | nil => simp [costS]
  | cons p ps ih =>
    cases o with
    | nil =>
      have : 0 ≤ 9 * B * ((p :: ps).length : Int) := Int.mul_nonneg (by omega) (by omega)
      simp only [costS, List.zip_nil_right, List.map_nil, List.sum_nil]
      omega
    | cons x o =>
      have h1 := ih (o := o) (fun q hq => hc q (by simp [hq])) (fun i => by have := h (i + 1); simpa using this)
      have hx := h 0
      simp only [List.getD_cons_zero] at hx
      have hp := hc p (by simp)
      have t1 : x * p.co ≤ x * 9 := Int.mul_le_mul_of_nonneg_left hp.2 hx.1
      have t2 : x * (-9) ≤ x * p.co := Int.mul_le_mul_of_nonneg_left hp.1 hx.1
      rw [costS_cons, costT, List.length_cons]
      push_cast
      rw [Int.mul_add]
      omega

/-- what the operations of a part's cost yield -/
def pcV (rows row pip : Value) (B ga gv gp k m x : Nat) (s d co : Int) : Nat → Value → Prop
  | 0, y => y = .int .i64 s
  | 1, y => y = rows
  | 2, y => y = .int .i64 k
  | 3, y => y = .pointer (some ⟨ga, k, none⟩)
  | 4, y => y = row
  | 5, y => y = .pointer (some ⟨gv, 0, none⟩)
  | 6, y => y = .int .i64 d
  | 7, y => y = .pointer (some ⟨B, 1, none⟩)
  | 8, y => y = pip
  | 9, y => y = rows
  | 10, y => y = .int .i64 k
  | 11, y => y = .pointer (some ⟨ga, k, none⟩)
  | 12, y => y = row
  | 13, y => y = .int .i64 m
  | 14, y => y = .pointer (some ⟨gv, m, none⟩)
  | 15, y => y = .int .i64 x
  | 16, y => y = .pointer (some ⟨gp, x * 5, none⟩)
  | 17, y => y = .pointer (some ⟨gp, x * 5 + 4, none⟩)
  | 18, y => y = .int .i64 co
  | 19, y => y = .int .i64 (d * co)
  | 20, y => y = .int .i64 (s + d * co)
  | 21, y => y = .int .i64 (s + d * co)
  | _, _ => True

set_option maxRecDepth 20000 in
set_option maxHeartbeats 8000000 in
set_option maxRecDepth 20000 in
theorem walk (v : Value) (n : Nat) (w : World) (h : ArgBytes w v n) :
    Calls Try.prog 8 #[v] w fun e w' => e = .returned (.bool true) ∧ Below w.heap.size w w' := by
  obtain ⟨A, c, rfl, hc1, hc2, -⟩ := id h
  unfold maxLen at hc2
  by_cases hbig : 1048576 < n
  · go_enter Try.func8, Try.ntmps8
    go_wp2
    go_ret
    exact ⟨rfl, by (repeat (first | (with_reducible assumption) | (with_reducible exact Below.refl _ _) | ((with_reducible refine Below.alloc ?_ ?hsz _); (case hsz => (first | omega | (simp; done) | (simp; omega) | (simp at *; omega)))) | ((with_reducible refine Below.setCell ?_ ?hsz _); (case hsz => (first | omega | (simp; done) | (simp; omega) | (simp at *; omega)))) | (with_reducible refine Below.drew ?_) | (with_reducible refine below_drewN ?_ _) | ((with_reducible refine Below.trans ?_ (Below.mono (by with_reducible assumption) ?hsz)); (case hsz => (first | omega | (simp; done) | (simp; omega) | (simp at *; omega))))))⟩
  go_enter Try.func8, Try.ntmps8
  go_wp2_with fail
  with_reducible refine (drawPartsOf_any _ n _ (h.keep (by (repeat (first | (with_reducible assumption) | (with_reducible exact Below.refl _ _) | ((with_reducible refine Below.alloc ?_ ?hsz _); (case hsz => (first | omega | (simp; done) | (simp; omega) | (simp at *; omega)))) | ((with_reducible refine Below.setCell ?_ ?hsz _); (case hsz => (first | omega | (simp; done) | (simp; omega) | (simp at *; omega)))) | (with_reducible refine Below.drew ?_) | (with_reducible refine below_drewN ?_ _) | ((with_reducible refine Below.trans ?_ (Below.mono (by with_reducible assumption) ?hsz)); (case hsz => (first | omega | (simp; done) | (simp; omega) | (simp at *; omega))))))))).mono ?_
  rintro e w1 ⟨z, ps, u, xs, t, i, j, rfl, hp, hx, hb1, hl8, hz1, hz6⟩
  have hBw1 : Below w.heap.size w w1 := by (repeat (first | (with_reducible assumption) | (with_reducible exact Below.refl _ _) | ((with_reducible refine Below.alloc ?_ ?hsz _); (case hsz => (first | omega | (simp; done) | (simp; omega) | (simp at *; omega)))) | ((with_reducible refine Below.setCell ?_ ?hsz _); (case hsz => (first | omega | (simp; done) | (simp; omega) | (simp at *; omega)))) | (with_reducible refine Below.drew ?_) | (with_reducible refine below_drewN ?_ _) | ((with_reducible refine Below.trans ?_ (Below.mono (by with_reducible assumption) ?hsz)); (case hsz => (first | omega | (simp; done) | (simp; omega) | (simp at *; omega))))))
  clear h hc1 hc2 hbig
  obtain ⟨A1, c1, rfl, hk1, hk2, hsm, -⟩ := hp.form
  unfold maxLen at hk2
  have bx1 : Box2 (w1.alloc (.cells #[.int .i64 z, .slice A1 ps.length c1] 25)) w1.heap.size (.int .i64 z) (.slice A1 ps.length c1) := Box2.new _ _ _ _
  have hB1 : Below w1.heap.size w1 (w1.alloc (.cells #[.int .i64 z, .slice A1 ps.length c1] 25)) := by (repeat (first | (with_reducible assumption) | (with_reducible exact Below.refl _ _) | ((with_reducible refine Below.alloc ?_ ?hsz _); (case hsz => (first | omega | (simp; done) | (simp; omega) | (simp at *; omega)))) | ((with_reducible refine Below.setCell ?_ ?hsz _); (case hsz => (first | omega | (simp; done) | (simp; omega) | (simp at *; omega)))) | (with_reducible refine Below.drew ?_) | (with_reducible refine below_drewN ?_ _) | ((with_reducible refine Below.trans ?_ (Below.mono (by with_reducible assumption) ?hsz)); (case hsz => (first | omega | (simp; done) | (simp; omega) | (simp at *; omega))))))
  obtain ⟨AX, cX, rfl, xk1, xk2, xk3, -⟩ := hx.form
  unfold maxLen at xk2
  obtain ⟨X, hX⟩ : ∃ X, xs.length = X := ⟨_, rfl⟩
  have HX := Lib.hid hX
  rw [hX] at hx xk1 xk3 ⊢
  have X1 := parts_ex z i j _ _ ps xs _ _ _ (hp.keep hB1) (hx.keep hB1)
  clear hX
  obtain ⟨bs, d0, d1, g0, g1⟩ := id bx1
  go_wp2_with fail
  with_reducible refine X1.mono ?_
  rintro e w2 ⟨r2, rfl, hR2, hnn⟩
  have bx2 := bx1.keep hnn
  have hB2 : Below w1.heap.size w1 w2 := by (repeat (first | (with_reducible assumption) | (with_reducible exact Below.refl _ _) | ((with_reducible refine Below.alloc ?_ ?hsz _); (case hsz => (first | omega | (simp; done) | (simp; omega) | (simp at *; omega)))) | ((with_reducible refine Below.setCell ?_ ?hsz _); (case hsz => (first | omega | (simp; done) | (simp; omega) | (simp at *; omega)))) | (with_reducible refine Below.drew ?_) | (with_reducible refine below_drewN ?_ _) | ((with_reducible refine Below.trans ?_ (Below.mono (by with_reducible assumption) ?hsz)); (case hsz => (first | omega | (simp; done) | (simp; omega) | (simp at *; omega))))))
  clear hnn d0 d1 g0 g1 X1
  obtain ⟨bs, d0, d1, g0, g1⟩ := id bx2
  obtain ⟨A2, c2, rfl, ra1, ra2, ra3, -⟩ := hR2.toB.form
  unfold maxLen at ra2
  have hfew : (partsR z ps xs i j).length ≤ 18 := partsR_few
  have heach := partsR_each (n := z) (ps := ps) (xs := xs) (a := i) (b := j)
  obtain ⟨N, hN⟩ : ∃ N, (partsR z ps xs i j).length = N := ⟨_, rfl⟩
  have hR23 := hR2.toB
  rw [hN] at ra1 ra3 hfew ⊢
  rcases hok : partsOkB z ps xs i j with _ | _
  · clear hok hR2 hR23 heach hN
    go_wp2_with fail
    with_reducible refine (alive_any _).mono ?_
    rintro e w3 ⟨rfl, hnn⟩
    have bx3 := (bx2).keep hnn
    have hB3 : Below w1.heap.size w1 w3 := by (repeat (first | (with_reducible assumption) | (with_reducible exact Below.refl _ _) | ((with_reducible refine Below.alloc ?_ ?hsz _); (case hsz => (first | omega | (simp; done) | (simp; omega) | (simp at *; omega)))) | ((with_reducible refine Below.setCell ?_ ?hsz _); (case hsz => (first | omega | (simp; done) | (simp; omega) | (simp at *; omega)))) | (with_reducible refine Below.drew ?_) | (with_reducible refine below_drewN ?_ _) | ((with_reducible refine Below.trans ?_ (Below.mono (by with_reducible assumption) ?hsz)); (case hsz => (first | omega | (simp; done) | (simp; omega) | (simp at *; omega))))))
    clear hnn
    (try clear d0 d1 g0 g1)
    obtain ⟨bs, d0, d1, g0, g1⟩ := id bx3
    go_wp2
    (go_ret; exact ⟨rfl, hBw1.trans (Below.mono (by with_reducible assumption) hBw1.size)⟩)
  · obtain ⟨q1, q2, q3⟩ := parts_all hok
    obtain ⟨hok', hlen, -⟩ := flowOk_parts q3
    have hl7 := (netOk_parts hok').2.2.1
    have hco := net_costs hok'
    have hXp : X = ps.length := by rw [← HX.out]; exact hlen
    subst hXp
    rw [HX.out] at q2
    generalize partsR z ps xs i j = LS at *
    have HQ := Lib.hid (And.intro q1 (And.intro q2 (And.intro q3 (And.intro heach (And.intro hN (And.intro hco hR23))))))
    clear hok q1 q2 q3 heach hN hco hR2 hR23 hok' hlen
    have bx20 := bx2
    go_wp2_with fail
    go_loopw [9, 10] (fun s t wr => ∃ k : Nat, k ≤ N ∧ t = .int .i64 k ∧ s = .int .i64 (costS ps (takenL ps.length (LS.take k))) ∧ (∀ q, 0 ≤ (takenL ps.length (LS.take k)).getD q 0 ∧ (takenL ps.length (LS.take k)).getD q 0 ≤ 280 * (k : Int)) ∧ Box2 wr w1.heap.size (.int .i64 z) (.slice A1 ps.length c1) ∧ Below w1.heap.size w1 wr ∧ Below w2.heap.size w2 wr) (fun _ t _ => N - (intOf t).toNat)
    case atStart => exact ⟨0, by omega, rfl, by rw [List.take_zero, takenL, List.foldl_nil, costS_zero], (fun q => by
      rw [List.take_zero, takenL, List.foldl_nil, List.getD_eq_getElem?_getD, List.getElem?_replicate]
      split <;> simp), bx2, hB2, Below.refl _ _⟩
    case round =>
      obtain ⟨k, hk, rfl, rfl, hent, bx, hB, hb2⟩ := hrel
      clear d0 d1 g0 g1 bs
      obtain ⟨bs, d0, d1, g0, g1⟩ := id bx
      have Hent := Lib.hid hent
      clear hent
      by_cases hlt : k < N
      · have hkl : k < LS.length := by rw [HQ.out.2.2.2.2.1]; exact hlt
        obtain ⟨l2, l7⟩ := HQ.out.2.2.2.1 _ (List.getElem_mem hkl)
        obtain ⟨d, l, hL, hd1, hd40, hpl⟩ := HQ.out.1 _ (List.getElem_mem hkl)
        have Hsn := Lib.hid (taken_snoc (n := ps.length) hkl)
        generalize hLk : LS[k] = L at *
        subst hL
        have hplc := place_all hpl
        obtain ⟨M, hM⟩ : ∃ M, (d :: natsI l).length = M := ⟨_, rfl⟩
        have hM1 : (natsI l).length + 1 = M := by rw [← hM]; rfl
        have hto : takenL ps.length (LS.take (k + 1)) = (natsI l).foldl (take1 ps.length d) (takenL ps.length (LS.take k)) := Hsn.out
        have HL := Lib.hid (And.intro hLk (And.intro hplc (And.intro hM (And.intro hM1 hto))))
        have hol : (takenL ps.length (LS.take k)).length = ps.length := takenL_len _ _
        generalize takenL ps.length (LS.take k) = o0 at *
        have Hol := Lib.hid hol
        rw [hM] at l2 l7
        clear hLk hplc hM hM1 hto hpl Hsn hol
        obtain ⟨wo, hwo⟩ : ∃ wo : World, wr = wo := ⟨_, rfl⟩
        rw [hwo] at bx hB hb2 bs d0 d1 g0 g1 ⊢
        have hzB := hB.size
        have hzb2 := hb2.size
        clear hwo
        go_wp2_with fail
        go_loopw [9, 11] (fun s t wr => ∃ m : Nat, 1 ≤ m ∧ m ≤ M ∧ t = .int .i64 m ∧ s = .int .i64 (costS ps (((natsI l).take (m - 1)).foldl (take1 ps.length d) o0)) ∧ (∀ q, 0 ≤ (((natsI l).take (m - 1)).foldl (take1 ps.length d) o0).getD q 0 ∧ (((natsI l).take (m - 1)).foldl (take1 ps.length d) o0).getD q 0 ≤ 280 * (k : Int) + 40 * ((m - 1 : Nat) : Int)) ∧ (((natsI l).take (m - 1)).foldl (take1 ps.length d) o0).length = ps.length ∧ Below wo.heap.size wo wr) (fun _ t _ => M - (intOf t).toNat)
        case atStart => exact ⟨1, by omega, by omega, rfl, rfl, (fun q => by have := Hent.out q; simpa using this), Hol.out, Below.refl _ _⟩
        case round =>
          obtain ⟨m, hm1, hm, rfl, rfl, hen, hoL, hbw⟩ := hrel
          clear d0 d1 g0 g1 bs
          have bxm := bx.keep hbw
          obtain ⟨bs, d0, d1, g0, g1⟩ := id bxm
          have hB2m := hb2.trans (hbw.mono hzb2)
          have hzm := hbw.size
          have hkl : k < LS.length := by rw [HQ.out.2.2.2.2.1]; exact hlt
          obtain ⟨A3, c3, hv3, -, -, -, f3⟩ := HQ.out.2.2.2.2.2.2.form
          obtain ⟨ga, va, ea, -, ga2, ca, ia⟩ := f3 wr hB2m k hkl
          injection hv3 with y1 y2 y3
          rw [← y1] at ea
          subst ea
          rw [HL.out.1] at ia
          obtain ⟨gv, cv, ev, hRv⟩ := ia.row (by rw [HL.out.2.2.1]; omega)
          rw [HL.out.2.2.1] at ev hRv
          subst ev
          obtain ⟨og1, og2⟩ := hRv.lt
          obtain ⟨oc1, oc2⟩ := hRv.capd
          unfold maxLen at oc2
          have hgaw : ga < wr.heap.size := by have := hB2m.size; omega
          clear ia y1 y2 y3 f3
          by_cases hltm : m < M
          · have cd := (hRv.at' 0 (by omega)).1
            have cx := (hRv.at' m (by omega)).1
            rw [List.getD_cons_zero] at cd
            obtain ⟨m', rfl⟩ : ∃ m', m = m' + 1 := ⟨m - 1, by omega⟩
            rw [List.getD_cons_succ] at cx
            have hml : m' < (natsI l).length := by have := HL.out.2.2.2.1; omega
            have hxx : (natsI l).getD m' 0 = (natsI l)[m'] := by rw [List.getD_eq_getElem?_getD, List.getElem?_eq_getElem hml, Option.getD_some]
            obtain ⟨xa, xb⟩ := HL.out.2.1 _ (List.getElem_mem hml)
            obtain ⟨x, hxe⟩ : ∃ x : Nat, (natsI l)[m'] = (x : Int) := ⟨((natsI l)[m']).toNat, by omega⟩
            rw [hxx, hxe] at cx
            rw [hxe] at xb
            have hxl : x < ps.length := by omega
            have hfold : Hid (((natsI l).take (m' + 1)).foldl (take1 ps.length d) o0 = take1 ps.length d (((natsI l).take m').foldl (take1 ps.length d) o0) x) := Lib.hid (by
              rw [List.take_succ_eq_append_getElem hml, List.foldl_append, hxe]; rfl)
            simp only [Nat.add_sub_cancel] at hen hoL ⊢
            generalize ((natsI l).take m').foldl (take1 ps.length d) o0 = o at *
            have hex := hen x
            have hnew := take1_bd (a := d) hxl hoL hen (by omega) (by omega) (by omega)
            have hset := take1_set (N := ps.length) (a := d) hxl hex.1 (by omega) (by omega) (by omega)
            have hcost : Hid (costS ps (take1 ps.length d o x) = costS ps o + d * ps[x].co) := Lib.hid (by rw [hset]; exact costS_set ps o x d hxl (by omega))
            have hlen1 : Hid ((take1 ps.length d o x).length = ps.length) := Lib.hid (by rw [take1_len]; exact hoL)
            have hcb := cost_bd HQ.out.2.2.2.2.2.1 hen (by omega)
            have hc9 := HQ.out.2.2.2.2.2.1 _ (List.getElem_mem hxl)
            have t1 : d * ps[x].co ≤ d * 9 := Int.mul_le_mul_of_nonneg_left hc9.2 (by omega)
            have t2 : d * (-9) ≤ d * ps[x].co := Int.mul_le_mul_of_nonneg_left hc9.1 (by omega)
            obtain ⟨gp, hA1, gp1, gp2, -, -, -, -, cco⟩ := hp.cellAt (Below.refl _ _) x hxl
            subst hA1
            clear bs d0 d1 g0 g1
            obtain ⟨bs, d0, d1, g0, g1⟩ := id bxm
            have hBr : Below w1.heap.size w1 wr := hB.trans (hbw.mono hzB)
            have ccr := (hBr.cell (p := ⟨gp, x * 5 + 4, none⟩) gp2).trans cco
            have hgpw : gp < wr.heap.size := by have := hBr.size; omega
            generalize hcoe : ps[x].co = co at *
            generalize hse : costS ps o = S at *
            have hS1 : -1000000 ≤ S := by
              have : (ps.length : Int) ≤ 7 := by omega
              have h9 : 9 * (280 * (k : Int) + 40 * (m' : Int)) * (ps.length : Int) ≤ 9 * (280 * (k : Int) + 40 * (m' : Int)) * 7 := Int.mul_le_mul_of_nonneg_left this (by omega)
              omega
            have hS2 : S ≤ 1000000 := by
              have : (ps.length : Int) ≤ 7 := by omega
              have h9 : 9 * (280 * (k : Int) + 40 * (m' : Int)) * (ps.length : Int) ≤ 9 * (280 * (k : Int) + 40 * (m' : Int)) * 7 := Int.mul_le_mul_of_nonneg_left this (by omega)
              omega
            have hw1 := IntWalk.i64_in (d * co) (by omega)
            have hw2 := IntWalk.wrap64_in (d * co) (by omega)
            have hdc1 : -360 ≤ d * co := by omega
            have hdc2 : d * co ≤ 360 := by omega
            have Hnew := Lib.hid hnew
            have hx0 : decide ((x : Int) < 0) = false := decide_eq_false (by omega)
            have hxl2 : decide ((ps.length : Int) ≤ (x : Int)) = false := decide_eq_false (by omega)
            have hxl3 : decide (ps.length ≤ x) = false := decide_eq_false (by omega)
            clear hnew hset hcb hc9 t1 t2 hex hen hoL cco gp2 hse hcoe xa xb hxx hxe
            have hca := fun p : Bw wr => (bw_cell p hgaw).trans ca
            have hcx := fun p : Bw wr => (bw_cell p og2).trans cx
            go_wp2_with fail
            have hd0 := fun p : Bw wr => (bw_cell p bs).trans d0
            have hd1 := fun p : Bw wr => (bw_cell p bs).trans d1
            refine wp_region_bw (by kernel_rfl) (by kernel_rfl) ?_
            repeat (go_big_quiet_step ((fail)))
            refine wpQuiet_nil ?_
            rintro _ ⟨pw, rfl⟩
            have bx5 := (bxm).keep pw.h
            have hB5 := (hBr).trans (pw.h.mono (hBr).size)
            have hbq := pw.h
            obtain ⟨w5, hwq⟩ : ∃ wq, wq = pw.v := ⟨_, rfl⟩
            rw [← hwq] at bx5 hB5 hbq ⊢
            clear d0 d1 g0 g1 hd0 hd1 hwq
            obtain ⟨bs, d0, d1, g0, g1⟩ := id bx5
            have ca5 := (bel_cell hbq hgaw).trans ca
            have cx5 := (bel_cell hbq og2).trans cx
            have cd5 := (bel_cell hbq og2).trans cd
            have cc5 := (bel_cell hbq hgpw).trans ccr
            have hz5 := hbq.size
            have hbw5 := hbw.trans (hbq.mono hzm)
            clear hca hcx ca cx cd ccr
            go_wp2_with fail
            refine wp_region_flow 21 (some 9) [(0, 71), (1, 72), (2, 73), (3, 74), (4, 75), (5, 76), (6, 77), (7, 78), (8, 79), (9, 80), (10, 81), (11, 82), (12, 83), (13, 84), (14, 85), (15, 86), (16, 87), (17, 88), (18, 89), (19, 90), (20, 91)] (fun jj y _ _ => pcV (.slice (some ⟨ga, 0, none⟩) N c2) (.slice (some ⟨gv, 0, none⟩) M cv) (.slice (some ⟨gp, 0, none⟩) ps.length c1) w1.heap.size ga gv gp k (m' + 1) x S d co jj y) (fun _ _ _ => True) (fun _ wx => Below w5.heap.size w5 wx) (by kernel_rfl) (by kernel_rfl) rfl ⟨rfl, rfl, rfl, Nat.le_refl _, fun _ _ => rfl⟩ ?_ ?_ ?_ ?_
            · exact fun _ _ _ _ _ _ _ _ _ _ h => h
            · exact fun _ _ _ _ _ _ _ h => h
            · simp (maxSteps := 4000000) only [eachOp, fillF, List.setIfInBounds_toArray, List.set_cons_succ, List.set_cons_zero]
              refine ⟨?_, ?_, ?_, ?_, ?_, ?_, ?_, ?_, ?_, ?_, ?_, ?_, ?_, ?_, ?_, ?_, ?_, ?_, ?_, ?_, ?_, ?_, trivial⟩ <;> intro uu fu wx hC hd <;> (try simp [allV, useOf, Region.binds] at hd)
              · go_wp2
                exact ⟨_, rfl, rfl, trivial, hC⟩
              · go_wp2
                exact ⟨_, rfl, rfl, trivial, hC⟩
              · go_wp2
                exact ⟨_, rfl, rfl, trivial, hC⟩
              · rw [show uu 1 = _ from hd.1, show uu 2 = _ from hd.2]
                go_wp2
                exact ⟨_, rfl, rfl, trivial, hC⟩
              · rw [show uu 3 = _ from hd]
                have e1 := (bel_cell hC (show ga < w5.heap.size by omega)).trans ca5
                go_wp2
                exact ⟨_, rfl, rfl, trivial, hC⟩
              · rw [show uu 4 = _ from hd]
                go_wp2
                exact ⟨_, rfl, rfl, trivial, hC⟩
              · rw [show uu 5 = _ from hd]
                have e1 := (bel_cell hC (show gv < w5.heap.size by omega)).trans cd5
                go_wp2
                exact ⟨_, rfl, rfl, trivial, hC⟩
              · go_wp2
                exact ⟨_, rfl, rfl, trivial, hC⟩
              · rw [show uu 7 = _ from hd]
                have e1 := (bel_cell hC bs).trans d1
                go_wp2
                exact ⟨_, rfl, rfl, trivial, hC⟩
              · go_wp2
                exact ⟨_, rfl, rfl, trivial, hC⟩
              · go_wp2
                exact ⟨_, rfl, rfl, trivial, hC⟩
              · rw [show uu 9 = _ from hd.1, show uu 10 = _ from hd.2]
                go_wp2
                exact ⟨_, rfl, rfl, trivial, hC⟩
              · rw [show uu 11 = _ from hd]
                have e1 := (bel_cell hC (show ga < w5.heap.size by omega)).trans ca5
                go_wp2
                exact ⟨_, rfl, rfl, trivial, hC⟩
              · go_wp2
                exact ⟨_, rfl, rfl, trivial, hC⟩
              · rw [show uu 12 = _ from hd.1, show uu 13 = _ from hd.2]
                go_wp2
                exact ⟨_, rfl, rfl, trivial, hC⟩
              · rw [show uu 14 = _ from hd]
                have e1 := (bel_cell hC (show gv < w5.heap.size by omega)).trans cx5
                go_wp2
                exact ⟨_, rfl, rfl, trivial, hC⟩
              · rw [show uu 8 = _ from hd.1, show uu 15 = _ from hd.2]
                go_wp2
                exact ⟨_, rfl, rfl, trivial, hC⟩
              · rw [show uu 16 = _ from hd]
                go_wp2
                exact ⟨_, rfl, rfl, trivial, hC⟩
              · rw [show uu 17 = _ from hd]
                have e1 := (bel_cell hC (show gp < w5.heap.size by omega)).trans cc5
                go_wp2
                exact ⟨_, rfl, rfl, trivial, hC⟩
              · rw [show uu 6 = _ from hd.1, show uu 18 = _ from hd.2]
                go_wp2
                exact ⟨_, rfl, rfl, trivial, hC⟩
              · rw [show uu 0 = _ from hd.1, show uu 19 = _ from hd.2]
                have h8 := IntWalk.i64_in (S + d * co) (by omega)
                have h9 := IntWalk.wrap64_in (S + d * co) (by omega)
                go_wp2
                exact ⟨_, rfl, rfl, trivial, hC⟩
              · rw [show uu 20 = _ from hd]
                go_wp2
                exact ⟨_, rfl, rfl, trivial, hC⟩
            · intro uu fu wx hC hfin
              simp only [fillEnd, fillF, Act.put, List.setIfInBounds_toArray, List.set_cons_succ, List.set_cons_zero]
              rw [show uu 21 = _ from hfin 21 (by decide) (by decide)]
              have hbw9 := hbw5.trans (hC.mono (by omega))
              generalize hSd : S + d * co = Sd at *
              have HSd := Lib.hid hSd
              clear hfin hSd ca5 cx5 cd5 cc5 hw1 hw2 hdc1 hdc2
              go_wp2
              go_roundw
              case rel =>
                refine ⟨m' + 2, by omega, by omega, by go_num, ?_, ?_, ?_, hbw9⟩
                · rw [show m' + 2 - 1 = m' + 1 by omega, hfold.out, hcost.out]
                  try rfl
                · rw [show m' + 2 - 1 = m' + 1 by omega, hfold.out]
                  intro q
                  have := Hnew.out q
                  omega
                · rw [show m' + 2 - 1 = m' + 1 by omega, hfold.out]
                  exact hlen1.out
              case measure => simp [intOf]; omega
          · have hmM : m = M := by omega
            have hfin : Hid (takenL ps.length (LS.take (k + 1)) = ((natsI l).take (m - 1)).foldl (take1 ps.length d) o0) := Lib.hid (by
              rw [HL.out.2.2.2.2, List.take_of_length_le (by have := HL.out.2.2.2.1; omega)])
            have hB9 := hB.trans (hbw.mono hzB)
            have Hen := Lib.hid hen
            obtain ⟨cs, hcs⟩ : ∃ cs, costS ps (((natsI l).take (m - 1)).foldl (take1 ps.length d) o0) = cs := ⟨_, rfl⟩
            have Hcs := Lib.hid hcs
            rw [hcs]
            have hmM2 := Lib.hid hmM
            clear hen hoL hcs hmM
            have hca := fun p : Bw wr => (bw_cell p hgaw).trans ca
            go_wp2
            go_roundw
            case rel =>
              refine ⟨k + 1, by omega, by go_num, by rw [hfin.out, Hcs.out], ?_, bxm, hB9, hB2m⟩
              rw [hfin.out]
              intro q
              have h8 := Hen.out q
              have h9 := hmM2.out
              push_cast
              omega
            case measure => simp [intOf]; omega
      · have hkN : k = N := by omega
        have hlast : Hid (takenL ps.length (LS.take k) = xs) := Lib.hid (by
          rw [hkN, List.take_of_length_le (by rw [HQ.out.2.2.2.2.1]; omega)]
          exact HQ.out.2.1)
        rw [hlast.out]
        obtain ⟨C, hC⟩ : ∃ C, costS ps xs = C := ⟨_, rfl⟩
        have hR : Hid (costR z ps xs = (C, true)) := Lib.hid (by rw [costR_yes HQ.out.2.2.1, hC])
        rw [hC]
        clear hC hkN
        have hxw := hx.keep hB
        go_wp2_with fail
        with_reducible refine (costOf_any z _ _ ps xs _ _ _ (hp.keep hB) hxw).mono ?_
        rintro e w5 ⟨rfl, hnn⟩
        rw [hR.out]
        have bx5 := bx.keep hnn
        have hB5 : Below w1.heap.size w1 w5 := by (repeat (first | (with_reducible assumption) | (with_reducible exact Below.refl _ _) | ((with_reducible refine Below.alloc ?_ ?hsz _); (case hsz => (first | omega | (simp; done) | (simp; omega) | (simp at *; omega)))) | ((with_reducible refine Below.setCell ?_ ?hsz _); (case hsz => (first | omega | (simp; done) | (simp; omega) | (simp at *; omega)))) | (with_reducible refine Below.drew ?_) | (with_reducible refine below_drewN ?_ _) | ((with_reducible refine Below.trans ?_ (Below.mono (by with_reducible assumption) ?hsz)); (case hsz => (first | omega | (simp; done) | (simp; omega) | (simp at *; omega))))))
        clear hnn d0 d1 g0 g1 bs
        obtain ⟨bs, d0, d1, g0, g1⟩ := id bx5
        go_wp2_with fail
        with_reducible refine (alive_any _).mono ?_
        rintro e w6 ⟨rfl, hnn⟩
        have bx6 := (bx5).keep hnn
        have hB6 : Below w1.heap.size w1 w6 := by (repeat (first | (with_reducible assumption) | (with_reducible exact Below.refl _ _) | ((with_reducible refine Below.alloc ?_ ?hsz _); (case hsz => (first | omega | (simp; done) | (simp; omega) | (simp at *; omega)))) | ((with_reducible refine Below.setCell ?_ ?hsz _); (case hsz => (first | omega | (simp; done) | (simp; omega) | (simp at *; omega)))) | (with_reducible refine Below.drew ?_) | (with_reducible refine below_drewN ?_ _) | ((with_reducible refine Below.trans ?_ (Below.mono (by with_reducible assumption) ?hsz)); (case hsz => (first | omega | (simp; done) | (simp; omega) | (simp at *; omega))))))
        clear hnn
        (try clear d0 d1 g0 g1)
        obtain ⟨bs, d0, d1, g0, g1⟩ := id bx6
        go_wp2
        (go_ret; exact ⟨rfl, hBw1.trans (Below.mono (by with_reducible assumption) hBw1.size)⟩)

set_option maxRecDepth 100000 in
theorem contract (H : Type) (enc : TypeId × Value → H) (W : World) (base : Nat) (args : Array Value) (ds gs : List (DataW H)) (before : List MemPlace)
    (hval : ∀ (j : Nat) t v, Try.f8.params[j]? = some t → args[j]? = some v → Value.okWide Try.prog W .any base t v)
    (hW : DataW.Whole enc Try.prog Try.f8.params.toList Rows.fnPartsCostSpec.vars false W args.toList ds gs before) :
    Calls Try.prog 8 args W fun e W' => ∃ v, e = .returned v ∧ Rows.fnPartsCostSpec.post enc Try.prog Try.f8 false true false false W args v W' := by
  have hW' := hW
  obtain ⟨p, q, hA0, hV, rfl, hfz, hnd⟩ := hW
  have hA : DataW.TrodAll enc Try.prog W 0 (fun _ => true) true Try.f8.params.toList args.toList ds p := hA0
  rw [Try.params8] at hA hval
  obtain ⟨u0, us0, d0, ds0, p0, q0, hargs, rfl, rfl, g0, k0⟩ := trodAll_cons hA
  obtain ⟨rfl, rfl, rfl⟩ := trodAll_nil k0
  obtain rfl : args = #[u0] := by cases args; simp_all
  obtain ⟨rfl, rfl⟩ := trodVars_none hV
  obtain ⟨m0, e0⟩ := g0
  obtain ⟨s0, l0, f0, hh0⟩ := open_arg_bytes e0
  have f0' := one_of_cells Try.underlying22 (hval 0 _ _ rfl rfl) f0
  subst f0'
  refine (walk _ l0 W hh0).mono fun e W' ⟨he, hb⟩ => ?_
  subst he
  exact ⟨_, rfl, law_post Try.kids Try.full (by rw [Try.params8]; decide) rfl rfl Try.underlying4 hW' rfl rfl rfl hb⟩

set_option maxRecDepth 100000 in
theorem lifted (os : Os) (started : os.Started) (H : Type) (enc : TypeId × Value → H) :
    ReturnsInHanded {} Try.checked os 8 .any (Rows.fnPartsCostSpec.pre6 enc Try.prog Try.f8 Rows.fnPartsCostRow.domain false) (Rows.fnPartsCostSpec.post enc Try.prog Try.f8 false true false false) := by
  refine returnsInHanded_of_change (C := Try.checked) Try.own started (by kernel_rfl) Try.func8
    (ChangeSpec.witness6 (enc := enc) (C := Try.checked) false ⟨#[], #[.slice none 0 0], []⟩ 8 (by kernel_rfl) (by kernel_rfl) (by kernel_rfl) (by kernel_rfl)) ?_
  intro W base args ds gs before hval0 hW _ _
  exact contract H enc W base args ds gs before hval0 hW

theorem proved : Rows.FnPartsCostSaid :=
  OpenClaim.holds_of_wide 8 Try.f8 rfl rfl rfl rfl rfl rfl rfl ⟨rfl, rfl, rfl, rfl, rfl⟩ rfl rfl rfl rfl rfl (by kernel_rfl) Try.func8 (by kernel_rfl)
    (of_decide_eq_true (by kernel_rfl)) (by unfold Func.isWrapper; first | (rw [if_pos (by decide +kernel)]; kernel_rfl) | (rw [if_neg (by decide +kernel)]; exact ⟨rfl, rfl⟩))
    (fun os started H enc _ => lifted os started H enc)

end Go.Proofs.Ytlaeckjfjleplaa.lawPartsCost
