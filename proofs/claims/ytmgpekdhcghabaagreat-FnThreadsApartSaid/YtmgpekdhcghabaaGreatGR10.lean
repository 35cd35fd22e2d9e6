/- Plain facts. -/
import Derived.Test.YtmgpekdhcghabaaGreatW2
import Derived.Test.YtmgpekdhcghabaaGreatGR1
import Derived.Test.YtmgpekdhcghabaaGreatGR17
import Derived.Test.YtmgpekdhcghabaaGreatGR2
/- Contracts of the functions of chapter 1 in the program: ExcessAt, BalancedOk, HoldsOk. -/
namespace Go.Proofs.YtmgpekdhcghabaaGreat
open Go.RowKit

set_option maxHeartbeats 400000 in
set_option maxRecDepth 20000 in
theorem holdsOk_any (n : Int) (v u : Value) (ps : List Pp) (xs : List Int) (b b' : Nat) (w : World) (hp : Pipes w b v ps) (hx : Ints w b' u xs) :
    Calls Tryz.prog 126 #[.agg #[.int .i64 n, v], u] w fun e w' => e = .returned (.bool (holdsB n ps xs)) ∧ Below w.heap.size w w' := by
  have hp0 := hp
  have hx0 := hx
  obtain ⟨A, c, rfl, hc1, hc2, hs, hcell⟩ := hp.form
  obtain ⟨A', c', rfl, hc1', hc2', hs', hcell'⟩ := hx.form
  unfold maxLen at hc2 hc2'
  go_enter Tryz.func126, Tryz.ntmps126
  go_wp2_with (first
    | (go_at_call 61; ((with_reducible refine (flowOk_any n _ _ ps xs b b' _ (hp0.keep (by (repeat (first | (with_reducible assumption) | (with_reducible exact Below.refl _ _) | ((with_reducible refine Below.alloc ?_ ?hsz _); (case hsz => (first | omega | (simp; done) | (simp; omega) | (simp at *; omega)))) | ((with_reducible refine Below.setCell ?_ ?hsz _); (case hsz => (first | omega | (simp; done) | (simp; omega) | (simp at *; omega)))) | (with_reducible refine Below.drew ?_) | (with_reducible refine below_drewN ?_ _) | ((with_reducible refine Below.trans ?_ (Below.mono (by with_reducible assumption) ?hsz)); (case hsz => (first | omega | (simp; done) | (simp; omega) | (simp at *; omega)))))))) (hx0.keep (by (repeat (first | (with_reducible assumption) | (with_reducible exact Below.refl _ _) | ((with_reducible refine Below.alloc ?_ ?hsz _); (case hsz => (first | omega | (simp; done) | (simp; omega) | (simp at *; omega)))) | ((with_reducible refine Below.setCell ?_ ?hsz _); (case hsz => (first | omega | (simp; done) | (simp; omega) | (simp at *; omega)))) | (with_reducible refine Below.drew ?_) | (with_reducible refine below_drewN ?_ _) | ((with_reducible refine Below.trans ?_ (Below.mono (by with_reducible assumption) ?hsz)); (case hsz => (first | omega | (simp; done) | (simp; omega) | (simp at *; omega))))))))).mono ?_); rintro e w1 ⟨rfl, hb1⟩; obtain ⟨hc1, hf1, hz1⟩ := bcell hb1; (try simp at hz1); (try have hy1 : w.heap.size < w1.heap.size := by omega); (try have hy2 : w.heap.size + 1 < w1.heap.size := by omega); (try have hy3 : w.heap.size + 1 + 1 < w1.heap.size := by omega))))
  · have hno : flowOkB n ps xs = false := of_not_t (by assumption)
    go_ret
    exact ⟨ret_bool (by simp [holdsB, hno]), by (repeat (first | (with_reducible assumption) | (with_reducible exact Below.refl _ _) | ((with_reducible refine Below.alloc ?_ ?hsz _); (case hsz => (first | omega | (simp; done) | (simp; omega) | (simp at *; omega)))) | ((with_reducible refine Below.setCell ?_ ?hsz _); (case hsz => (first | omega | (simp; done) | (simp; omega) | (simp at *; omega)))) | (with_reducible refine Below.drew ?_) | (with_reducible refine below_drewN ?_ _) | ((with_reducible refine Below.trans ?_ (Below.mono (by with_reducible assumption) ?hsz)); (case hsz => (first | omega | (simp; done) | (simp; omega) | (simp at *; omega))))))⟩
  · have hok : flowOkB n ps xs = true := of_not (by assumption)
    have Hl := Lib.hid (flowOk_parts hok).2.1
    simp only [hok, Bool.not_true]
    go_loopw [14] (fun i wr => ∃ k : Nat, k ≤ ps.length ∧ i = .int .i64 k ∧ (∀ p ∈ (ps.zip xs).take k, (fun q : Pp × Int => withinB q.2 q.1.le q.1.mo) p = true) ∧ Below w1.heap.size w1 wr) (fun i _ => ps.length - (intOf i).toNat)
    case atStart => exact ⟨0, by omega, rfl, by simp, Below.refl _ _⟩
    case round =>
      obtain ⟨k, hk, rfl, hall, hb⟩ := hrel
      have hbw : Below w.heap.size w wr := by (repeat (first | (with_reducible assumption) | (with_reducible exact Below.refl _ _) | ((with_reducible refine Below.alloc ?_ ?hsz _); (case hsz => (first | omega | (simp; done) | (simp; omega) | (simp at *; omega)))) | ((with_reducible refine Below.setCell ?_ ?hsz _); (case hsz => (first | omega | (simp; done) | (simp; omega) | (simp at *; omega)))) | (with_reducible refine Below.drew ?_) | (with_reducible refine below_drewN ?_ _) | ((with_reducible refine Below.trans ?_ (Below.mono (by with_reducible assumption) ?hsz)); (case hsz => (first | omega | (simp; done) | (simp; omega) | (simp at *; omega))))))
      have e0 := (hb.cell (p := ⟨w.heap.size, 0, none⟩) (by (first | omega | (simp; done) | (simp; omega) | (simp at *; omega)))).trans ((hc1 _ _ (by (first | omega | (simp; done) | (simp; omega) | (simp at *; omega)))).trans (by simp; rfl))
      have e1 := (hb.cell (p := ⟨w.heap.size, 1, none⟩) (by (first | omega | (simp; done) | (simp; omega) | (simp at *; omega)))).trans ((hc1 _ _ (by (first | omega | (simp; done) | (simp; omega) | (simp at *; omega)))).trans (by simp; rfl))
      obtain ⟨hcr, hfr, hzr⟩ := bcell hbw
      have hzs := hb.size
      have hzz : w.heap.size < wr.heap.size := by omega
      by_cases hlt : k < ps.length
      · have hlx : k < xs.length := by have := Hl.out; omega
        obtain ⟨g, rfl, hg1, hg2, c0, c1, c2, c3, c4⟩ := hcell w (Below.refl _ _) k hlt
        obtain ⟨g', rfl, hg1', hg2', c0', _⟩ := hcell' w (Below.refl _ _) k hlx
        have hgr : g < wr.heap.size := by omega
        have hgr' : g' < wr.heap.size := by omega
        go_wp2
        go_quiet ((go_at_call 81; exact Calls.quiet_of_same ((within_any _ _ _ _).mono fun _ _ h => ⟨h.1, h.2.symm⟩)))
        go_wp2
        · have h0 : withinB xs[k] ps[k].le ps[k].mo = false := of_not_t (by assumption)
          go_ret
          exact ⟨ret_bool (by rw [holdsB, all_no (xs := ps.zip xs) (k := k) (by simp; omega) (by rw [zip_at hlt hlx]; simpa using h0)]; simp), by (repeat (first | (with_reducible assumption) | (with_reducible exact Below.refl _ _) | ((with_reducible refine Below.alloc ?_ ?hsz _); (case hsz => (first | omega | (simp; done) | (simp; omega) | (simp at *; omega)))) | ((with_reducible refine Below.setCell ?_ ?hsz _); (case hsz => (first | omega | (simp; done) | (simp; omega) | (simp at *; omega)))) | (with_reducible refine Below.drew ?_) | (with_reducible refine below_drewN ?_ _) | ((with_reducible refine Below.trans ?_ (Below.mono (by with_reducible assumption) ?hsz)); (case hsz => (first | omega | (simp; done) | (simp; omega) | (simp at *; omega))))))⟩
        · have h0 : withinB xs[k] ps[k].le ps[k].mo = true := of_not (by assumption)
          go_roundw
          case rel => exact ⟨k + 1, by omega, by go_num, all_take (xs := ps.zip xs) (k := k) (by simp; omega) hall (by rw [zip_at hlt hlx]; exact h0), by (repeat (first | (with_reducible assumption) | (with_reducible exact Below.refl _ _) | ((with_reducible refine Below.alloc ?_ ?hsz _); (case hsz => (first | omega | (simp; done) | (simp; omega) | (simp at *; omega)))) | ((with_reducible refine Below.setCell ?_ ?hsz _); (case hsz => (first | omega | (simp; done) | (simp; omega) | (simp at *; omega)))) | (with_reducible refine Below.drew ?_) | (with_reducible refine below_drewN ?_ _) | ((with_reducible refine Below.trans ?_ (Below.mono (by with_reducible assumption) ?hsz)); (case hsz => (first | omega | (simp; done) | (simp; omega) | (simp at *; omega))))))⟩
          case measure => simp [intOf]; omega
      · go_wp2
        go_ret
        exact ⟨ret_bool (by rw [holdsB, all_whole (by simp; omega) hall]; simp [*]), by (repeat (first | (with_reducible assumption) | (with_reducible exact Below.refl _ _) | ((with_reducible refine Below.alloc ?_ ?hsz _); (case hsz => (first | omega | (simp; done) | (simp; omega) | (simp at *; omega)))) | ((with_reducible refine Below.setCell ?_ ?hsz _); (case hsz => (first | omega | (simp; done) | (simp; omega) | (simp at *; omega)))) | (with_reducible refine Below.drew ?_) | (with_reducible refine below_drewN ?_ _) | ((with_reducible refine Below.trans ?_ (Below.mono (by with_reducible assumption) ?hsz)); (case hsz => (first | omega | (simp; done) | (simp; omega) | (simp at *; omega))))))⟩

end Go.Proofs.YtmgpekdhcghabaaGreat

/- Contracts of the functions of chapter 4 in the program: a part, gone along from a node on. -/
namespace Go.Proofs.YtmgpekdhcghabaaGreat
open Go.RowKit

set_option maxHeartbeats 4000000 in
set_option maxRecDepth 20000 in
theorem partFrom_any (n a c2 : Int) (v u : Value) (ps : List Pp) (xs : List Int) (b b' : Nat) (w : World) (hp : Pipes w b v ps) (hx : Ints w b' u xs) (hlen : xs.length = ps.length) (hok : netOkB n ps = true) (a0 : 0 ≤ a) (a1 : a < n) (hac : a ≠ c2)
    (hnext : ∀ v, (v = a ∨ ∃ k, k < ps.length ∧ (ps.getD k zeroPp).to = v ∧ 0 < xs.getD k 0) → v ≠ c2 → ∃ q, nextP ps xs v = some q) :
    Calls Tryz.prog 64 #[v, u, .int .i64 a, .int .i64 c2] w fun e w' => ∃ r, e = .returned (.tuple #[r, .bool (decide (0 ≤ (walkP ps xs a c2).2))]) ∧ Lies w' r (natsI ((walkP ps xs a c2).1.drop (walkP ps xs a c2).2.toNat)) ∧ (∀ q, r.ownBlock = some q → w.heap.size ≤ q) ∧ Below w.heap.size w w' := by
  have hp0 := hp
  have hx0 := hx
  obtain ⟨A, c, rfl, hcp1, hcp2, hsp, -⟩ := hp.form
  obtain ⟨A0, c0, rfl, hc1, hc2, hsm, -⟩ := hx.form
  unfold maxLen at hc2 hcp2
  rw [hlen] at hx0 hc1 ⊢
  obtain ⟨n2, n5, hl7, hpo⟩ := netOk_parts hok
  obtain ⟨i0, hi0', hz0, hz1', hz2'⟩ := info_parts int_info
  have HP := Lib.hid (And.intro hlen (And.intro hpo hnext))
  have hRn : Row (w.alloc (.cells #[.int .i64 a] 3)) w.heap.size w.heap.size 1 1 [a] :=
    ⟨World.ownsRow_lit (e := 3) (base := w.heap.size) (size := 1) w #[.int .i64 a] 1 (Nat.le_refl _) (by simp [maxLen]) rfl, by simp [small]⟩
  have hst := walk_start (n := n) (ps := ps) (xs := xs) a0 a1
  clear hlen hpo hnext
  go_enter Tryz.func64, Tryz.ntmps64
  go_wp2
  go_loopw [10, 11, 12] (fun t10 t11 t12 wr => ∃ (nodes : List Int) (walk : List Nat) (W k1 g2 k2 : Nat) (A1 : Option Addr) (v0 : Int), walk.length = W ∧ t10 = .slice A1 W k1 ∧ t11 = .slice (some ⟨g2, 0, none⟩) (W + 1) k2 ∧ t12 = .int .i64 v0 ∧ (Value.slice A1 W k1).ownBlock ≠ some g2 ∧ walkSt n ps xs nodes walk ∧ nodes.getLastD 0 = v0 ∧ (v0 = a ∨ ∃ k, k < ps.length ∧ (ps.getD k zeroPp).to = v0 ∧ 0 < xs.getD k 0) ∧ v0 ≠ c2 ∧ (∀ x ∈ nodes, x ≠ c2) ∧ goP ps xs c2 (6 - W) nodes walk = walkP ps xs a c2 ∧ wr.ownsRow w.heap.size 3 1 (.slice A1 W k1) W ((natsI walk).map (Value.int .i64)) ∧ Row wr w.heap.size g2 (W + 1) k2 nodes ∧ Below w.heap.size w wr) (fun t10 _ _ _ => 6 - sliceLen t10)
  case atStart => exact ⟨[a], [], 0, 0, w.heap.size, 1, none, a, rfl, rfl, rfl, rfl, by simp [Value.ownBlock], hst, rfl, .inl rfl, hac, (by intro x hx; simp at hx; subst hx; exact hac), rfl, World.ownsRow_nil _ _ _ 1, hRn, by (repeat (first | (with_reducible assumption) | (with_reducible exact Below.refl _ _) | ((with_reducible refine Below.alloc ?_ ?hsz _); (case hsz => (first | omega | (simp; done) | (simp; omega) | (simp at *; omega)))) | ((with_reducible refine Below.setCell ?_ ?hsz _); (case hsz => (first | omega | (simp; done) | (simp; omega) | (simp at *; omega)))) | (with_reducible refine Below.drew ?_) | (with_reducible refine below_drewN ?_ _) | ((with_reducible refine Below.trans ?_ (Below.mono (by with_reducible assumption) ?hsz)); (case hsz => (first | omega | (simp; done) | (simp; omega) | (simp at *; omega))))))⟩
  case round =>
    clear hRn hst
    obtain ⟨nodes, walk, W, k1, g2, k2, A1, v0, hW, rfl, rfl, rfl, hg12, hst, hlast, hin, hvc, hall, hgo, hown, hR2, hB⟩ := hrel
    have HA := Lib.hid hall
    clear hall
    have hzb := hB.size
    have hfew := hst.few (by omega)
    have hnl : nodes.length = W + 1 := by rw [hst.1, hW]
    rw [hnl] at hfew
    obtain ⟨og1, og2⟩ := hR2.lt
    obtain ⟨cap1, cap2⟩ := hR2.capd
    have hcap2' := cap2
    unfold maxLen at cap2
    obtain ⟨q, hnx⟩ := HP.out.2.2 v0 hin hvc
    have e6 : 6 - W = (5 - W) + 1 := by omega
    obtain ⟨hql, hqf, hqx⟩ := next_parts hnx
    have hto : (ps.getD q zeroPp) = ps[q] := by simp [List.getD_eq_getElem?_getD, hql]
    obtain ⟨-, -, t0, t1, -⟩ := pipeOk_parts (HP.out.2.1 _ (List.getElem_mem hql))
    have HN := Lib.hid (show nextP ps xs (nodes.getLastD 0) = some q by rw [hlast]; exact hnx)
    have HQ := Lib.hid hqx
    have HS := Lib.hid (And.intro hst (And.intro hgo (And.intro hW hnl)))
    have HT := Lib.hid (And.intro hto (And.intro t0 t1))
    obtain ⟨v1, hv1⟩ : ∃ v1, ps[q].to = v1 := ⟨_, rfl⟩
    obtain ⟨gp, rfl, gp1, gp2, -⟩ := hp0.cellAt hB q hql
    have H1 := Lib.hid hv1
    clear hst hgo hW hnl hlast hin hvc hto t0 t1 hqf hqx hv1
    go_wp2_with fail
    with_reducible refine (nextPipe_any v0 q _ _ ps xs b b' _ (hp0.keep hB) (hx0.keep hB) hl7 HP.out.1 hnx).mono ?_
    rintro e w2 ⟨rfl, hb2⟩
    have hB2 : Below w.heap.size w w2 := hB.trans (hb2.mono hzb)
    have hs2 := hb2.size
    have hown2 := own_keep hown (Nat.le_refl _) hb2
    have hR22 := hR2.keep hb2
    have hrow : ∀ q', (Value.slice A1 W k1).ownBlock = some q' → w.heap.size ≤ q' := fun q' hq => (hown2.lt q' hq).1
    have hrow2 : ∀ q', (Value.slice A1 W k1).ownBlock = some q' → q' < w2.heap.size := fun q' hq => (hown2.lt q' hq).2
    clear hown hR2 hb2 hnx
    by_cases hvc : v1 = c2
    · have hvb : (v1 == c2) = true := by simpa using hvc
      have Hr : Hid (walkP ps xs a c2 = (walk ++ [q], -1)) := Lib.hid (by
        have hnin : (ps.getD q zeroPp).to ∉ nodes := by
          rw [HT.out.1, H1.out, hvc]
          exact fun hm => HA.out c2 hm rfl
        rw [← HS.out.2.1, e6]
        exact go_end HN.out hnin (by rw [HT.out.1, H1.out, hvc]))
      clear hvc
      go_wp2_with (first
        | (at_builtin
           go_must (refine wpList_append_lies _ rfl _ _ 30 rfl w.heap.size 3 i0 _ 1 8 Tryz.underlying30 hi0' hz0 hz1' hz2' rfl (by omega) (.slice A1 W k1) W _ rfl (hown2.alloc _) ⟨w2.heap.size, 0, none⟩ 1 1 [.int .i64 (q : Int)] rfl rfl (World.news_of_block (cs := #[.int .i64 (q : Int)]) (t := 3) (fr := (0, 0)) (heap_alloc_new _ _)) (by simp [Value.oneCell']) (by omega) (by unfold maxLen; omega) (by omega) (by simp; omega) _ rfl ?_)
           intro g3 k3 w7 hown7 hgr7 hat7 hlt7
           go_must (have hB7 : Below w.heap.size w2 w7 := Below.grown (w := w2.alloc (.cells #[.int .i64 (q : Int)] 3)) (by (repeat (first | (with_reducible assumption) | (with_reducible exact Below.refl _ _) | ((with_reducible refine Below.alloc ?_ ?hsz _); (case hsz => (first | omega | (simp; done) | (simp; omega) | (simp at *; omega)))) | ((with_reducible refine Below.setCell ?_ ?hsz _); (case hsz => (first | omega | (simp; done) | (simp; omega) | (simp at *; omega)))) | (with_reducible refine Below.drew ?_) | (with_reducible refine below_drewN ?_ _) | ((with_reducible refine Below.trans ?_ (Below.mono (by with_reducible assumption) ?hsz)); (case hsz => (first | omega | (simp; done) | (simp; omega) | (simp at *; omega))))))) hgr7 (by (first | omega | (simp; done) | (simp; omega) | (simp at *; omega))) hrow)
           go_must (have hBw7 : Below w.heap.size w w7 := hB2.trans hB7)
           go_must (have hR27 := (hR22.keep (w' := w2.alloc (.cells #[.int .i64 (q : Int)] 3)) (by (repeat (first | (with_reducible assumption) | (with_reducible exact Below.refl _ _) | ((with_reducible refine Below.alloc ?_ ?hsz _); (case hsz => (first | omega | (simp; done) | (simp; omega) | (simp at *; omega)))) | ((with_reducible refine Below.setCell ?_ ?hsz _); (case hsz => (first | omega | (simp; done) | (simp; omega) | (simp at *; omega)))) | (with_reducible refine Below.drew ?_) | (with_reducible refine below_drewN ?_ _) | ((with_reducible refine Below.trans ?_ (Below.mono (by with_reducible assumption) ?hsz)); (case hsz => (first | omega | (simp; done) | (simp; omega) | (simp at *; omega)))))))).grown hgr7 hg12)
           obtain ⟨gp', hgp', -, -, -, cto, -, -, -⟩ := hp0.cellAt hBw7 q hql
           go_must (have hgp'' : gp' = gp := (by injection hgp' with hgp'; injection hgp' with hgp'; exact hgp'.symm))
           subst hgp''
           rw [H1.out] at cto
           go_must (have hgpw : gp' < w7.heap.size := Nat.lt_of_lt_of_le gp2 hBw7.size)))
      have hs7 := hB7.size
      have hg32 : g3 ≠ g2 := by
        rcases hat7 with h | h
        · intro hh; subst hh; exact hg12 h
        · simp at h; omega
      have hR17 : Row w7 w.heap.size g3 (W + 1) k3 (natsI (walk ++ [q])) := ⟨by rw [natsI, List.map_append, List.map_append]; exact hown7, by simp [small]; omega⟩
      have hlw : (natsI (walk ++ [q])).length = W + 1 := by simp [HS.out.2.2.1]
      obtain ⟨cap3, cap4⟩ := hR17.capd
      have hcap4' := cap4
      unfold maxLen at cap4
      obtain ⟨oh1, oh2⟩ := hR17.lt
      clear hown7 hgr7 hat7 hown2 hrow hrow2 hR22
      refine bodyPost_ret (v := .tuple #[.slice (some ⟨g3, 0, none⟩) (W + 1) k3, .bool false]) (by simp [results, Tryz.results64, go_sem]) rfl ⟨.slice (some ⟨g3, 0, none⟩) (W + 1) k3, by rw [Hr.out]; rfl, ?_, fun q' hq' => by have hq2 : g3 = q' := (by injection hq'); omega, hBw7⟩
      rw [Hr.out]
      refine ⟨g3, 0, k3, by rw [← hlw]; rfl, oh2, by have := hlw; simp at this ⊢; omega, hcap4', fun jj hj => ?_⟩
      have hj2 : jj < W + 1 := by have := hlw; simp at this hj; omega
      rw [Nat.zero_add, (hR17.at' jj hj2).1, getD_at (by rw [hlw]; exact hj2)]
      rfl
    · have hvb : (v1 == c2) = false := by simpa using hvc
      have HVC := Lib.hid hvc
      clear hvc
      go_wp2_with (first
        | (at_builtin
           go_must (refine wpList_append_lies _ rfl _ _ 30 rfl w.heap.size 3 i0 _ 1 8 Tryz.underlying30 hi0' hz0 hz1' hz2' rfl (by omega) (.slice A1 W k1) W _ rfl (hown2.alloc _) ⟨w2.heap.size, 0, none⟩ 1 1 [.int .i64 (q : Int)] rfl rfl (World.news_of_block (cs := #[.int .i64 (q : Int)]) (t := 3) (fr := (0, 0)) (heap_alloc_new _ _)) (by simp [Value.oneCell']) (by omega) (by unfold maxLen; omega) (by omega) (by simp; omega) _ rfl ?_)
           intro g3 k3 w7 hown7 hgr7 hat7 hlt7
           go_must (have hB7 : Below w.heap.size w2 w7 := Below.grown (w := w2.alloc (.cells #[.int .i64 (q : Int)] 3)) (by (repeat (first | (with_reducible assumption) | (with_reducible exact Below.refl _ _) | ((with_reducible refine Below.alloc ?_ ?hsz _); (case hsz => (first | omega | (simp; done) | (simp; omega) | (simp at *; omega)))) | ((with_reducible refine Below.setCell ?_ ?hsz _); (case hsz => (first | omega | (simp; done) | (simp; omega) | (simp at *; omega)))) | (with_reducible refine Below.drew ?_) | (with_reducible refine below_drewN ?_ _) | ((with_reducible refine Below.trans ?_ (Below.mono (by with_reducible assumption) ?hsz)); (case hsz => (first | omega | (simp; done) | (simp; omega) | (simp at *; omega))))))) hgr7 (by (first | omega | (simp; done) | (simp; omega) | (simp at *; omega))) hrow)
           go_must (have hBw7 : Below w.heap.size w w7 := hB2.trans hB7)
           go_must (have hR27 := (hR22.keep (w' := w2.alloc (.cells #[.int .i64 (q : Int)] 3)) (by (repeat (first | (with_reducible assumption) | (with_reducible exact Below.refl _ _) | ((with_reducible refine Below.alloc ?_ ?hsz _); (case hsz => (first | omega | (simp; done) | (simp; omega) | (simp at *; omega)))) | ((with_reducible refine Below.setCell ?_ ?hsz _); (case hsz => (first | omega | (simp; done) | (simp; omega) | (simp at *; omega)))) | (with_reducible refine Below.drew ?_) | (with_reducible refine below_drewN ?_ _) | ((with_reducible refine Below.trans ?_ (Below.mono (by with_reducible assumption) ?hsz)); (case hsz => (first | omega | (simp; done) | (simp; omega) | (simp at *; omega)))))))).grown hgr7 hg12)
           obtain ⟨gp', hgp', -, -, -, cto, -, -, -⟩ := hp0.cellAt hBw7 q hql
           go_must (have hgp'' : gp' = gp := (by injection hgp' with hgp'; injection hgp' with hgp'; exact hgp'.symm))
           subst hgp''
           rw [H1.out] at cto
           go_must (have hgpw : gp' < w7.heap.size := Nat.lt_of_lt_of_le gp2 hBw7.size)))
      have hs7 := hB7.size
      have hg32 : g3 ≠ g2 := by
        rcases hat7 with h | h
        · intro hh; subst hh; exact hg12 h
        · simp at h; omega
      have hR17 : Row w7 w.heap.size g3 (W + 1) k3 (natsI (walk ++ [q])) := ⟨by rw [natsI, List.map_append, List.map_append]; exact hown7, by simp [small]; omega⟩
      have hlw : (natsI (walk ++ [q])).length = W + 1 := by simp [HS.out.2.2.1]
      obtain ⟨cap3, cap4⟩ := hR17.capd
      have hcap4' := cap4
      unfold maxLen at cap4
      obtain ⟨oh1, oh2⟩ := hR17.lt
      clear hown7 hgr7 hat7 hown2 hrow hrow2 hR22
      obtain ⟨on1, on2⟩ := hR27.lt
      have hnl2 := HS.out.2.2.2
      have hIx := indexPre_any v1 g2 (W + 1) k2 nodes w7 (fun jj hj => (hR27.at' jj hj).1) on2 (by rw [hnl2]; exact Nat.le_refl _) (by omega) cap1 hcap2'
      clear hnl2
      with_reducible refine hIx.mono ?_
      rintro e w8 ⟨r, rfl, hr, hb8⟩
      have hBw8 : Below w.heap.size w w8 := hBw7.trans (hb8.mono hBw7.size)
      have hs8 := hb8.size
      have hR18 := hR17.keep hb8
      have hR28 := hR27.keep hb8
      clear hIx hb8 hR17 hR27
      rcases hr with ⟨rfl, hnin⟩ | ⟨jj, rfl, hj1, hj2, hj3⟩
      · rw [List.take_of_length_le (by rw [HS.out.2.2.2]; exact Nat.le_refl _)] at hnin
        have hnin' : (ps.getD q zeroPp).to ∉ nodes := by rw [HT.out.1, H1.out]; exact hnin
        have hst' := HS.out.1.on HN.out hnin' (by rw [HT.out.1]; exact HT.out.2.1) (by rw [HT.out.1]; have := HT.out.2.2; omega)
        rw [HT.out.1, H1.out] at hst'
        have hgo' : goP ps xs c2 (6 - (W + 1)) (nodes ++ [v1]) (walk ++ [q]) = walkP ps xs a c2 := by
          rw [← HS.out.2.1, e6, go_on HN.out hnin' (by rw [HT.out.1, H1.out]; exact HVC.out), HT.out.1, H1.out]
          congr 1
          omega
        have hall' : ∀ x ∈ nodes ++ [v1], x ≠ c2 := by
          intro x hx
          rcases List.mem_append.1 hx with hx | hx
          · exact HA.out x hx
          · simp at hx; subst hx; exact HVC.out
        have HS' := Lib.hid (And.intro hst' (And.intro hgo' hall'))
        have hR2o := hR28.1
        have hrow : ∀ q', (Value.slice (some ⟨g2, 0, none⟩) (W + 1) k2).ownBlock = some q' → w.heap.size ≤ q' := fun q' hq => (hR2o.lt q' hq).1
        clear hst' hgo' hall' hnin hnin'
        go_wp2_with (first
          | (at_builtin
             go_must (refine wpList_append_lies _ rfl _ _ 30 rfl w.heap.size 3 i0 _ 1 8 Tryz.underlying30 hi0' hz0 hz1' hz2' rfl (by omega) (.slice (some ⟨g2, 0, none⟩) (W + 1) k2) (W + 1) _ rfl (hR2o.alloc _) ⟨w8.heap.size, 0, none⟩ 1 1 [.int .i64 v1] rfl rfl (World.news_of_block (cs := #[.int .i64 v1]) (t := 3) (fr := (0, 0)) (heap_alloc_new _ _)) (by simp [Value.oneCell']) (by omega) (by unfold maxLen; omega) (by omega) (by simp; omega) _ rfl ?_)
             intro g4 k4 w9 hown9 hgr9 hat9 hlt9))
        have hB9 : Below w.heap.size w8 w9 := Below.grown (w := w8.alloc (.cells #[.int .i64 v1] 3)) (by (repeat (first | (with_reducible assumption) | (with_reducible exact Below.refl _ _) | ((with_reducible refine Below.alloc ?_ ?hsz _); (case hsz => (first | omega | (simp; done) | (simp; omega) | (simp at *; omega)))) | ((with_reducible refine Below.setCell ?_ ?hsz _); (case hsz => (first | omega | (simp; done) | (simp; omega) | (simp at *; omega)))) | (with_reducible refine Below.drew ?_) | (with_reducible refine below_drewN ?_ _) | ((with_reducible refine Below.trans ?_ (Below.mono (by with_reducible assumption) ?hsz)); (case hsz => (first | omega | (simp; done) | (simp; omega) | (simp at *; omega))))))) hgr9 (by (first | omega | (simp; done) | (simp; omega) | (simp at *; omega))) hrow
        have hR19 := (hR18.keep (w' := w8.alloc (.cells #[.int .i64 v1] 3)) (by (repeat (first | (with_reducible assumption) | (with_reducible exact Below.refl _ _) | ((with_reducible refine Below.alloc ?_ ?hsz _); (case hsz => (first | omega | (simp; done) | (simp; omega) | (simp at *; omega)))) | ((with_reducible refine Below.setCell ?_ ?hsz _); (case hsz => (first | omega | (simp; done) | (simp; omega) | (simp at *; omega)))) | (with_reducible refine Below.drew ?_) | (with_reducible refine below_drewN ?_ _) | ((with_reducible refine Below.trans ?_ (Below.mono (by with_reducible assumption) ?hsz)); (case hsz => (first | omega | (simp; done) | (simp; omega) | (simp at *; omega)))))))).grown hgr9 (by intro hh; exact hg32 (by injection hh with hh; exact hh.symm))
        have hg34 : (Value.slice (some ⟨g3, 0, none⟩) (W + 1) k3).ownBlock ≠ some g4 := by
          intro hh
          have hh2 : g3 = g4 := by injection hh
          rcases hat9 with h | h
          · have hq : g2 = g4 := (by injection h)
            omega
          · simp at h; omega
        have hR29 : Row w9 w.heap.size g4 (W + 1 + 1) k4 (nodes ++ [v1]) := ⟨by rw [List.map_append]; exact hown9, by simp [small]; omega⟩
        have hBw9 : Below w.heap.size w w9 := hBw8.trans hB9
        clear hown9 hgr9 hat9 hR28 hR2o hrow
        go_roundw
        case rel => exact ⟨nodes ++ [v1], walk ++ [q], W + 1, k3, g4, k4, some ⟨g3, 0, none⟩, v1, by rw [List.length_append, HS.out.2.2.1]; rfl, rfl, rfl, rfl, hg34, HS'.out.1, by simp, .inr ⟨q, hql, by rw [HT.out.1, H1.out], HQ.out⟩, HVC.out, HS'.out.2.2, HS'.out.2.1, hR19.1, hR29, hBw9⟩
        case measure => simp [sliceLen]; omega
      · have Hr : Hid (walkP ps xs a c2 = (walk ++ [q], (jj : Int))) := Lib.hid (by
          rw [← HS.out.2.1, e6]
          have hin : (ps.getD q zeroPp).to ∈ nodes := by
            rw [HT.out.1, H1.out]
            exact in_of (i := jj) (by rw [HS.out.2.2.2]; exact hj1) hj2
          rw [go_close HN.out hin, HT.out.1, H1.out, idxOf_at nodes v1 jj (by rw [HS.out.2.2.2]; exact hj1) hj2 (fun q' hq' he => hj3 (by
            rw [List.mem_take_iff_getElem]
            exact ⟨q', by have := HS.out.2.2.2; omega, by rw [← he, getD_at (by have := HS.out.2.2.2; omega)]⟩))])
        have hk3j : k3 ≠ jj := by omega
        have hj4 : (jj : Int) ≤ ((W + 1 : Nat) : Int) := by omega
        have hml : (natsI ((walk ++ [q]).drop jj)).length = W + 1 - jj := by simp [HS.out.2.2.1]
        clear hj2 hj3
        go_wp2
        all_goals
          refine bodyPost_ret (v := .tuple #[.slice (some ⟨g3, jj, none⟩) (W + 1 - jj) (k3 - jj), .bool true]) (by simp [results, Tryz.results64, go_sem]) rfl ⟨.slice (some ⟨g3, jj, none⟩) (W + 1 - jj) (k3 - jj), by rw [Hr.out]; simp, ?_, fun q' hq' => by have hq2 : g3 = q' := (by injection hq'); omega, hBw8⟩
          rw [Hr.out]
          have hL : Lies w8 (.slice (some ⟨g3, jj, none⟩) (W + 1 - jj) (k3 - jj)) (natsI ((walk ++ [q]).drop jj)) := by
            refine ⟨g3, jj, k3 - jj, by rw [hml], by omega, by rw [hml]; omega, by unfold maxLen at *; omega, fun i hi => ?_⟩
            have hi2 : jj + i < W + 1 := by rw [hml] at hi; omega
            rw [(hR18.at' (jj + i) hi2).1, getD_at (by rw [hlw]; exact hi2)]
            simp [natsI]
          simpa using hL

end Go.Proofs.YtmgpekdhcghabaaGreat

/- Contracts of the functions of chapter 4 in the program: the rings of a flow. -/
namespace Go.Proofs.YtmgpekdhcghabaaGreat
open Go.RowKit

/-- no two of these rows share memory -/
def Apart (vs : List Value) : Prop := ∀ i j, (h : i < j) → (hj : j < vs.length) → (vs[i]'(by omega)).ownBlock = none ∨ (vs[i]'(by omega)).ownBlock ≠ vs[j].ownBlock
theorem Apart.snoc {vs : List Value} {row : Value} {B : Nat} (h : Apart vs) (h1 : ∀ i (h : i < vs.length) q, vs[i].ownBlock = some q → q < B) (h2 : ∀ q, row.ownBlock = some q → B ≤ q) : Apart (vs ++ [row]) := by
  intro i j hij hj
  have hi : i < vs.length := by simp at hj; omega
  have ei : (vs ++ [row])[i]'(by simp; omega) = vs[i] := List.getElem_append_left hi
  rw [ei]
  by_cases hlt : j < vs.length
  · have ej : (vs ++ [row])[j] = vs[j] := List.getElem_append_left hlt
    rw [ej]
    exact h i j hij hlt
  · have hjl : j = vs.length := by simp at hj; omega
    subst hjl
    have ej : (vs ++ [row])[vs.length] = row := by simp
    rw [ej]
    cases hv : vs[i].ownBlock with
    | none => exact .inl rfl
    | some k =>
      refine .inr fun he => ?_
      have a1 := h1 i hi k hv
      have a2 := h2 k he.symm
      omega

def OwnRowsV (w : World) (b : Nat) (v : Value) (Ls : List (List Int)) : Prop :=
  ∃ vs : List Value, vs.length = Ls.length ∧ w.ownsRow b 30 1 v Ls.length vs ∧ Ls.length ≤ small ∧ (∀ k (h : k < Ls.length) (h' : k < vs.length), Ints w b vs[k] Ls[k]) ∧ Apart vs
theorem OwnRowsV.keep {w w' : World} {b : Nat} {v : Value} {Ls : List (List Int)} (h : OwnRowsV w b v Ls) (hb : Below w.heap.size w w') : OwnRowsV w' b v Ls := by
  obtain ⟨vs, h1, h2, h3, h4, h5⟩ := h
  exact ⟨vs, h1, own_keep h2 (Nat.le_refl _) hb, h3, fun k hk hk' => (h4 k hk hk').keep hb, h5⟩
theorem OwnRowsV.none_ (w : World) (b : Nat) : OwnRowsV w b (.slice none 0 0) [] := ⟨[], rfl, World.ownsRow_nil _ _ _ 1, by simp [small], fun k hk => absurd hk (by simp), fun i j _ hj => absurd hj (by simp)⟩
theorem Ints.otherV {w w' : World} {b b2 N : Nat} {v v2 : Value} {xs : List Int} {vs : List Value} (h : Ints w b v xs) (ho : w.ownsRow b2 30 1 v2 N vs) (hg : w.grownBy w' v2.ownBlock) : Ints w' b v xs := by
  rcases ho.2 with ⟨h2, hn⟩ | ⟨g, cap, cur, h2, r⟩
  · subst h2
    refine ⟨h.1.kept hg ?_, h.2⟩
    by_cases hv : v.ownBlock = none
    · exact .inl hv
    · exact .inr hv
  · subst h2
    exact h.other ho hg
theorem rows_snocV {w w6 : World} {b g6 k6 : Nat} {v2 : Value} {Ls : List (List Int)} {L : List Int} {row : Value} {vs : List Value} (h1 : vs.length = Ls.length) (h2 : w.ownsRow b 30 1 v2 Ls.length vs)
    (h4 : ∀ k (h : k < Ls.length) (h' : k < vs.length), Ints w b vs[k] Ls[k]) (hr : Ints w b row L) (hap : Apart (vs ++ [row])) (hs : Ls.length + 1 ≤ small) (hg : w.grownBy w6 v2.ownBlock)
    (ho : w6.ownsRow b 30 1 (.slice (some ⟨g6, 0, none⟩) (Ls.length + 1) k6) (Ls.length + 1) (vs ++ [row])) : OwnRowsV w6 b (.slice (some ⟨g6, 0, none⟩) (Ls.length + 1) k6) (Ls ++ [L]) := by
  have hl : (Ls ++ [L]).length = Ls.length + 1 := by simp
  refine ⟨vs ++ [row], by simp [h1], by rw [hl]; exact ho, by rw [hl]; exact hs, fun k hk hk' => ?_, hap⟩
  by_cases hlt : k < Ls.length
  · have e1 : (vs ++ [row])[k] = vs[k]'(by omega) := List.getElem_append_left (by omega)
    have e2 : (Ls ++ [L])[k] = Ls[k] := List.getElem_append_left hlt
    rw [e1, e2]
    exact (h4 k hlt (by omega)).otherV h2 hg
  · have hkl : k = Ls.length := by omega
    subst hkl
    have e1 : (vs ++ [row])[Ls.length] = row := by simp [← h1]
    have e2 : (Ls ++ [L])[Ls.length] = L := by simp
    rw [e1, e2]
    exact hr.otherV h2 hg

set_option maxHeartbeats 400000 in
set_option maxRecDepth 20000 in
theorem posFn_any (x : Int) (w : World) : Calls Tryz.prog 116 #[.int .i64 x] w fun e w' => e = .returned (.bool (decide (0 < x))) ∧ w = w' := by
  go_enter Tryz.func116, Tryz.ntmps116
  go_wp2
  go_ret
  exact ⟨rfl, rfl⟩

set_option maxHeartbeats 1000000 in
set_option maxRecDepth 20000 in
theorem indexPos_any (u : Value) (xs : List Int) (b : Nat) (w : World) (hx : Ints w b u xs) :
    Calls Tryz.prog 89 #[u, .func (Fn.func 116) #[] #[]] w fun e w' => ∃ r : Int, e = .returned (.int .i64 r) ∧ ((r = -1 ∧ firstP xs = none) ∨ ∃ q : Nat, r = (q : Int) ∧ firstP xs = some q) ∧ Below w.heap.size w w' := by
  obtain ⟨A0, c0, rfl, hc1, hc2, hs, hcell⟩ := hx.form
  unfold maxLen at hc2
  go_enter Tryz.func89, Tryz.ntmps89
  go_wp2
  go_loopw [8] (fun i wr => ∃ k : Nat, k ≤ xs.length ∧ i = .int .i64 k ∧ (∀ i, i < k → decide (0 < xs.getD i 0) = false) ∧ Below w.heap.size w wr) (fun i _ => xs.length - (intOf i).toNat)
  case atStart => exact ⟨0, by omega, rfl, fun i hi => absurd hi (by omega), Below.refl _ _⟩
  case round =>
    obtain ⟨k, hk, rfl, hall, hb⟩ := hrel
    have Hall := Lib.hid hall
    clear hall
    have hzb := hb.size
    by_cases hlt : k < xs.length
    · obtain ⟨g, rfl, hg1, hg2, cx, -⟩ := hcell wr hb k hlt
      have HG := Lib.hid (getD_at hlt)
      generalize xs[k] = y at *
      by_cases hy : 0 < y
      · have hyd : decide (0 < y) = true := decide_eq_true hy
        have Hf : Hid (firstP xs = some k) := Lib.hid (range_find.2 ⟨hlt, by rw [HG.out]; exact hyd, Hall.out⟩)
        clear hy
        go_wp2_with fail
        refine (posFn_any y _).mono ?_
        rintro e w1 ⟨rfl, rfl⟩
        rw [hyd]
        go_wp2
        go_ret
        exact ⟨_, rfl, .inr ⟨k, rfl, Hf.out⟩, by (repeat (first | (with_reducible assumption) | (with_reducible exact Below.refl _ _) | ((with_reducible refine Below.alloc ?_ ?hsz _); (case hsz => (first | omega | (simp; done) | (simp; omega) | (simp at *; omega)))) | ((with_reducible refine Below.setCell ?_ ?hsz _); (case hsz => (first | omega | (simp; done) | (simp; omega) | (simp at *; omega)))) | (with_reducible refine Below.drew ?_) | (with_reducible refine below_drewN ?_ _) | ((with_reducible refine Below.trans ?_ (Below.mono (by with_reducible assumption) ?hsz)); (case hsz => (first | omega | (simp; done) | (simp; omega) | (simp at *; omega))))))⟩
      · have hyd : decide (0 < y) = false := decide_eq_false hy
        have Hn := Lib.hid (show ∀ i, i < k + 1 → decide (0 < xs.getD i 0) = false by
          intro i hi
          rcases Nat.lt_succ_iff_lt_or_eq.1 hi with h | h
          · exact Hall.out i h
          · subst h; rw [HG.out]; exact hyd)
        clear hy
        go_wp2_with fail
        refine (posFn_any y _).mono ?_
        rintro e w1 ⟨rfl, rfl⟩
        rw [hyd]
        go_wp2
        go_roundw
        case rel => exact ⟨k + 1, by omega, by go_num, Hn.out, by (repeat (first | (with_reducible assumption) | (with_reducible exact Below.refl _ _) | ((with_reducible refine Below.alloc ?_ ?hsz _); (case hsz => (first | omega | (simp; done) | (simp; omega) | (simp at *; omega)))) | ((with_reducible refine Below.setCell ?_ ?hsz _); (case hsz => (first | omega | (simp; done) | (simp; omega) | (simp at *; omega)))) | (with_reducible refine Below.drew ?_) | (with_reducible refine below_drewN ?_ _) | ((with_reducible refine Below.trans ?_ (Below.mono (by with_reducible assumption) ?hsz)); (case hsz => (first | omega | (simp; done) | (simp; omega) | (simp at *; omega))))))⟩
        case measure => first | (simp [intOf]; done) | (simp [intOf]; omega)
    · have Hf : Hid (firstP xs = none) := Lib.hid (range_none.2 fun i hi => Hall.out i (by omega))
      go_wp2
      go_ret
      exact ⟨_, rfl, .inl ⟨rfl, Hf.out⟩, hb⟩

end Go.Proofs.YtmgpekdhcghabaaGreat
