/- Contracts of the functions of chapter 3 in the program: the first way. -/
import Derived.Test.YtmgpekdhcghabaaGreatWE
import Derived.Test.YtmgpekdhcghabaaGreatGR1
import Derived.Deep.QuietTactic
namespace Go.Proofs.YtmgpekdhcghabaaGreat
open Go.RowKit

theorem find_at {α : Type} {p : α → Bool} {l : List α} {k : Nat} (hk : k < l.length) (hno : ∀ x ∈ l.take k, (!p x) = true) (hp : p l[k] = true) : l.find? p = some l[k] := by
  rw [List.find?_eq_some_iff_append]
  refine ⟨hp, l.take k, l.drop (k + 1), ?_, hno⟩
  conv => lhs; rw [← List.take_append_drop k l]
  rw [List.drop_eq_getElem_cons hk]

/-- is it the step that is looked for -/
def isNext (n : Int) (ps : List Pp) (xs : List Int) (c : Int) (k : Int) (v : Int) (s : Nat) : Bool := decide (stFr ps s = v) && decide ((dis n ps xs (stTo ps s) c : Int) = k)
theorem nextS_eq (n : Int) (ps : List Pp) (xs : List Int) (c : Int) (k : Nat) (v : Int) : nextS n ps xs c k v = (stL ps xs).find? (isNext n ps xs c k v) := by
  unfold nextS isNext
  congr 1
  funext s
  congr 1
  rw [Bool.eq_iff_iff, decide_eq_true_eq, decide_eq_true_eq]
  exact Int.ofNat_inj.symm

theorem dst_get {E : List (Int × Int)} {N : Nat} {c v : Int} (h0 : 0 ≤ v) (h1 : v < N) : (dstL E N c).getD v.toNat 0 = (dst E N v c : Int) := by
  have e : ((v.toNat : Nat) : Int) = v := by omega
  rw [dstL_at (by omega), e]

set_option maxHeartbeats 2000000 in
set_option maxRecDepth 20000 in
theorem wayFn_any (s bn bv bl bk : Nat) (n k v : Int) (vp vl : Value) (ps : List Pp) (xs : List Int) (c : Int) (b b' : Nat) (w : World) (hp : Pipes w b vp ps) (hl : Ints w b' vl (dstL (edgL ps xs) n.toNat c)) (hn : netOkB n ps = true) (hs : s < 2 * ps.length)
    (d1 : w.cell? ⟨bn, 1, none⟩ = some vp) (d2 : w.cell? ⟨bv, 0, none⟩ = some (.int .i64 v)) (d3 : w.cell? ⟨bl, 0, none⟩ = some vl) (d4 : w.cell? ⟨bk, 0, none⟩ = some (.int .i64 k))
    (hbv : bv < w.heap.size) (hbl : bl < w.heap.size) (hbk : bk < w.heap.size) :
    Calls Tryz.prog 141 #[.int .i64 s, .pointer (some ⟨bn, 0, none⟩), .pointer (some ⟨bv, 0, none⟩), .pointer (some ⟨bl, 0, none⟩), .pointer (some ⟨bk, 0, none⟩)] w fun e w' => e = .returned (.bool (isNext n ps xs c k v s)) ∧ Below w.heap.size w w' := by
  have hp0 := hp
  obtain ⟨A, ca, rfl, -, -, -, -⟩ := hp.form
  obtain ⟨n2, n5, hl7, -⟩ := netOk_parts hn
  obtain ⟨⟨a0, a1⟩, ⟨e0, e1⟩, -⟩ := st_ends hn hs
  obtain ⟨N, rfl⟩ : ∃ N : Nat, n = (N : Int) := ⟨n.toNat, by omega⟩
  have hval0 : isNext N ps xs c k v s = (decide (stFr ps s = v) && decide ((dst (edgL ps xs) N (stTo ps s) c : Int) = k)) := rfl
  rw [Int.toNat_natCast] at *
  have hll : (dstL (edgL ps xs) N c).length = N := dstL_len
  obtain ⟨gl, cl, rfl, hR⟩ := hl.row (by omega)
  rw [hll] at *
  obtain ⟨g1, g2⟩ := hR.lt
  obtain ⟨hcl1, hcl2⟩ := hR.capd
  unfold maxLen at hcl2
  obtain ⟨e, he⟩ : ∃ e : Nat, stTo ps s = (e : Int) := ⟨(stTo ps s).toNat, by omega⟩
  have hdis := dst_get (E := edgL ps xs) (c := c) (N := N) e0 (by omega)
  rw [he] at e0 e1 hdis
  rw [Int.toNat_natCast] at hdis
  obtain ⟨y0, -⟩ := hR.at' e (by omega)
  rw [hdis] at y0
  obtain ⟨m, hm⟩ : ∃ m : Nat, dst (edgL ps xs) N (e : Int) c = m := ⟨_, rfl⟩
  rw [hm] at y0
  have hval : isNext N ps xs c k v s = (decide (stFr ps s = v) && decide ((m : Int) = k)) := by rw [hval0, he, hm]
  have Hv := Lib.hid hval
  have He := Lib.hid he
  have hN5 : N ≤ 5 := by omega
  have heN : (e : Int) < (N : Int) := by omega
  clear hval hval0 he hdis hm e1 hl hn n2 n5
  by_cases h1 : stFr ps s = v
  · have h1d : (stFr ps s == v) = true := by simpa using h1
    have h1e : decide (stFr ps s = v) = true := by simpa using h1
    have Hr := Lib.hid (show (decide (stFr ps s = v) && decide ((m : Int) = k)) = ((m : Int) == k) by rw [beq_dec]; simp [h1])
    clear h1
    go_enter Tryz.func141, Tryz.ntmps141
    go_wp2_with (first
      | (go_at_call 142; ((with_reducible refine (stepEnds_any s _ ps b _ (hp0.keep (by (repeat (first | (with_reducible assumption) | (with_reducible exact Below.refl _ _) | ((with_reducible refine Below.alloc ?_ ?hsz _); (case hsz => (first | omega | (simp; done) | (simp; omega) | (simp at *; omega)))) | ((with_reducible refine Below.setCell ?_ ?hsz _); (case hsz => (first | omega | (simp; done) | (simp; omega) | (simp at *; omega)))) | (with_reducible refine Below.drew ?_) | (with_reducible refine below_drewN ?_ _) | ((with_reducible refine Below.trans ?_ (Below.mono (by with_reducible assumption) ?hsz)); (case hsz => (first | omega | (simp; done) | (simp; omega) | (simp at *; omega)))))))) hs hl7).mono ?_); rintro ee w1 ⟨rfl, hb1⟩; rw [He.out]; obtain ⟨hc1, hf1, hz1⟩ := bcell hb1; (try simp at hz1); (try have hy1 : w.heap.size < w1.heap.size := by omega); (try have hy2 : w.heap.size + 1 < w1.heap.size := by omega); (try have hy3 : w.heap.size + 1 + 1 < w1.heap.size := by omega))))
    go_quiet (fail)
    go_wp2
    go_ret
    exact ⟨ret_bool (by rw [Hv.out, Hr.out]), by (repeat (first | (with_reducible assumption) | (with_reducible exact Below.refl _ _) | ((with_reducible refine Below.alloc ?_ ?hsz _); (case hsz => (first | omega | (simp; done) | (simp; omega) | (simp at *; omega)))) | ((with_reducible refine Below.setCell ?_ ?hsz _); (case hsz => (first | omega | (simp; done) | (simp; omega) | (simp at *; omega)))) | (with_reducible refine Below.drew ?_) | (with_reducible refine below_drewN ?_ _) | ((with_reducible refine Below.trans ?_ (Below.mono (by with_reducible assumption) ?hsz)); (case hsz => (first | omega | (simp; done) | (simp; omega) | (simp at *; omega))))))⟩
  · have h1d : (stFr ps s == v) = false := by simpa using h1
    have h1e : decide (stFr ps s = v) = false := by simpa using h1
    have Hr := Lib.hid (show (decide (stFr ps s = v) && decide ((m : Int) = k)) = false by simp [h1])
    clear h1
    go_enter Tryz.func141, Tryz.ntmps141
    go_wp2_with (first
      | (go_at_call 142; ((with_reducible refine (stepEnds_any s _ ps b _ (hp0.keep (by (repeat (first | (with_reducible assumption) | (with_reducible exact Below.refl _ _) | ((with_reducible refine Below.alloc ?_ ?hsz _); (case hsz => (first | omega | (simp; done) | (simp; omega) | (simp at *; omega)))) | ((with_reducible refine Below.setCell ?_ ?hsz _); (case hsz => (first | omega | (simp; done) | (simp; omega) | (simp at *; omega)))) | (with_reducible refine Below.drew ?_) | (with_reducible refine below_drewN ?_ _) | ((with_reducible refine Below.trans ?_ (Below.mono (by with_reducible assumption) ?hsz)); (case hsz => (first | omega | (simp; done) | (simp; omega) | (simp at *; omega)))))))) hs hl7).mono ?_); rintro ee w1 ⟨rfl, hb1⟩; rw [He.out]; obtain ⟨hc1, hf1, hz1⟩ := bcell hb1; (try simp at hz1); (try have hy1 : w.heap.size < w1.heap.size := by omega); (try have hy2 : w.heap.size + 1 < w1.heap.size := by omega); (try have hy3 : w.heap.size + 1 + 1 < w1.heap.size := by omega))))
    go_quiet (fail)
    go_wp2
    go_ret
    exact ⟨ret_bool (by rw [Hv.out, Hr.out]), by (repeat (first | (with_reducible assumption) | (with_reducible exact Below.refl _ _) | ((with_reducible refine Below.alloc ?_ ?hsz _); (case hsz => (first | omega | (simp; done) | (simp; omega) | (simp at *; omega)))) | ((with_reducible refine Below.setCell ?_ ?hsz _); (case hsz => (first | omega | (simp; done) | (simp; omega) | (simp at *; omega)))) | (with_reducible refine Below.drew ?_) | (with_reducible refine below_drewN ?_ _) | ((with_reducible refine Below.trans ?_ (Below.mono (by with_reducible assumption) ?hsz)); (case hsz => (first | omega | (simp; done) | (simp; omega) | (simp at *; omega))))))⟩

set_option maxHeartbeats 2000000 in
set_option maxRecDepth 20000 in
theorem indexWay_any (bn bv bl bk : Nat) (n v : Int) (k s : Nat) (vp vl u : Value) (ps : List Pp) (xs : List Int) (c : Int) (b b' b0 : Nat) (w : World) (h0 : Ints w b0 u (openL ps xs)) (hp : Pipes w b vp ps) (hl : Ints w b' vl (dstL (edgL ps xs) n.toNat c)) (hn : netOkB n ps = true) (hs : nextS n ps xs c k v = some s)
    (d1 : w.cell? ⟨bn, 1, none⟩ = some vp) (d2 : w.cell? ⟨bv, 0, none⟩ = some (.int .i64 v)) (d3 : w.cell? ⟨bl, 0, none⟩ = some vl) (d4 : w.cell? ⟨bk, 0, none⟩ = some (.int .i64 k))
    (hbn : bn < w.heap.size) (hbv : bv < w.heap.size) (hbl : bl < w.heap.size) (hbk : bk < w.heap.size) :
    Calls Tryz.prog 89 #[u, .func (Fn.func 141) #[] #[.pointer (some ⟨bn, 0, none⟩), .pointer (some ⟨bv, 0, none⟩), .pointer (some ⟨bl, 0, none⟩), .pointer (some ⟨bk, 0, none⟩)]] w fun e w' => ∃ (i : Nat) (hi : i < (stL ps xs).length), e = .returned (.int .i64 i) ∧ (stL ps xs)[i] = s ∧ Below w.heap.size w w' := by
  obtain ⟨A, ca, rfl, hc1, hc2, hsm, hcell⟩ := h0.form
  unfold maxLen at hc2
  have hlS : (openL ps xs).length = (stL ps xs).length := by simp [openL_eq]
  rw [hlS] at hc1 hsm ⊢
  have hlS := Lib.hid hlS
  have HN := Lib.hid hn
  have HS := Lib.hid (nextS_eq n ps xs c k v ▸ hs)
  have HM : Hid (∀ s ∈ stL ps xs, s < 2 * ps.length) := Lib.hid (fun s hs => (stL_mem.1 hs).1)
  clear hn hs
  go_enter Tryz.func89, Tryz.ntmps89
  go_wp2
  go_loopw [8] (fun i wr => ∃ j : Nat, j ≤ (stL ps xs).length ∧ i = .int .i64 j ∧ (∀ x ∈ (stL ps xs).take j, (!isNext n ps xs c k v x) = true) ∧ Below w.heap.size w wr) (fun i _ => (stL ps xs).length - (intOf i).toNat)
  case atStart => exact ⟨0, by omega, rfl, by simp, Below.refl _ _⟩
  case round =>
    obtain ⟨j, hj, rfl, hall, hb⟩ := hrel
    have Hall := Lib.hid hall
    clear hall
    have hzb := hb.size
    by_cases hlt : j < (stL ps xs).length
    · obtain ⟨g, rfl, hg1, hg2, c0, -⟩ := hcell wr hb j (by rw [hlS.out]; exact hlt)
      have c0' : wr.cell? ⟨g, j, none⟩ = some (.int .i64 ((stL ps xs)[j] : Nat)) := by rw [c0]; simp [openL_eq]
      clear c0
      by_cases hx : isNext n ps xs c k v (stL ps xs)[j] = true
      · go_wp2_with fail
        with_reducible refine (wayFn_any (stL ps xs)[j] bn bv bl bk n k v _ _ ps xs c b b' _ (hp.keep hb) (hl.keep hb) HN.out (HM.out _ (List.getElem_mem hlt)) (by (repeat (first | (with_reducible assumption) | ((with_reducible refine (Below.cell (by with_reducible assumption) ?hsz).trans ?_); (case hsz => (first | omega | (simp; done) | (simp; omega) | (simp at *; omega)))) | ((with_reducible refine (World.cell?_alloc_lt _ _ _ ?hsz).trans ?_); (case hsz => (first | omega | (simp; done) | (simp; omega) | (simp at *; omega)))) | ((with_reducible refine (World.cell?_setCell_other _ _ _ _ ?hsz).trans ?_); (case hsz => (intro h; injection h with h1 h2; omega)))))) (by (repeat (first | (with_reducible assumption) | ((with_reducible refine (Below.cell (by with_reducible assumption) ?hsz).trans ?_); (case hsz => (first | omega | (simp; done) | (simp; omega) | (simp at *; omega)))) | ((with_reducible refine (World.cell?_alloc_lt _ _ _ ?hsz).trans ?_); (case hsz => (first | omega | (simp; done) | (simp; omega) | (simp at *; omega)))) | ((with_reducible refine (World.cell?_setCell_other _ _ _ _ ?hsz).trans ?_); (case hsz => (intro h; injection h with h1 h2; omega)))))) (by (repeat (first | (with_reducible assumption) | ((with_reducible refine (Below.cell (by with_reducible assumption) ?hsz).trans ?_); (case hsz => (first | omega | (simp; done) | (simp; omega) | (simp at *; omega)))) | ((with_reducible refine (World.cell?_alloc_lt _ _ _ ?hsz).trans ?_); (case hsz => (first | omega | (simp; done) | (simp; omega) | (simp at *; omega)))) | ((with_reducible refine (World.cell?_setCell_other _ _ _ _ ?hsz).trans ?_); (case hsz => (intro h; injection h with h1 h2; omega)))))) (by (repeat (first | (with_reducible assumption) | ((with_reducible refine (Below.cell (by with_reducible assumption) ?hsz).trans ?_); (case hsz => (first | omega | (simp; done) | (simp; omega) | (simp at *; omega)))) | ((with_reducible refine (World.cell?_alloc_lt _ _ _ ?hsz).trans ?_); (case hsz => (first | omega | (simp; done) | (simp; omega) | (simp at *; omega)))) | ((with_reducible refine (World.cell?_setCell_other _ _ _ _ ?hsz).trans ?_); (case hsz => (intro h; injection h with h1 h2; omega)))))) (by omega) (by omega) (by omega)).mono ?_
        rintro e w1 ⟨rfl, hb1⟩
        rw [hx]
        go_wp2
        go_ret
        refine ⟨j, hlt, rfl, ?_, by (repeat (first | (with_reducible assumption) | (with_reducible exact Below.refl _ _) | ((with_reducible refine Below.alloc ?_ ?hsz _); (case hsz => (first | omega | (simp; done) | (simp; omega) | (simp at *; omega)))) | ((with_reducible refine Below.setCell ?_ ?hsz _); (case hsz => (first | omega | (simp; done) | (simp; omega) | (simp at *; omega)))) | (with_reducible refine Below.drew ?_) | (with_reducible refine below_drewN ?_ _) | ((with_reducible refine Below.trans ?_ (Below.mono (by with_reducible assumption) ?hsz)); (case hsz => (first | omega | (simp; done) | (simp; omega) | (simp at *; omega))))))⟩
        have := find_at hlt Hall.out hx
        rw [HS.out] at this
        injection this with this
        exact this.symm
      · have hx' : isNext n ps xs c k v (stL ps xs)[j] = false := by simpa using hx
        have Hn := Lib.hid (all_take (f := fun x => !isNext n ps xs c k v x) hlt Hall.out (by simp [hx']))
        go_wp2_with fail
        with_reducible refine (wayFn_any (stL ps xs)[j] bn bv bl bk n k v _ _ ps xs c b b' _ (hp.keep hb) (hl.keep hb) HN.out (HM.out _ (List.getElem_mem hlt)) (by (repeat (first | (with_reducible assumption) | ((with_reducible refine (Below.cell (by with_reducible assumption) ?hsz).trans ?_); (case hsz => (first | omega | (simp; done) | (simp; omega) | (simp at *; omega)))) | ((with_reducible refine (World.cell?_alloc_lt _ _ _ ?hsz).trans ?_); (case hsz => (first | omega | (simp; done) | (simp; omega) | (simp at *; omega)))) | ((with_reducible refine (World.cell?_setCell_other _ _ _ _ ?hsz).trans ?_); (case hsz => (intro h; injection h with h1 h2; omega)))))) (by (repeat (first | (with_reducible assumption) | ((with_reducible refine (Below.cell (by with_reducible assumption) ?hsz).trans ?_); (case hsz => (first | omega | (simp; done) | (simp; omega) | (simp at *; omega)))) | ((with_reducible refine (World.cell?_alloc_lt _ _ _ ?hsz).trans ?_); (case hsz => (first | omega | (simp; done) | (simp; omega) | (simp at *; omega)))) | ((with_reducible refine (World.cell?_setCell_other _ _ _ _ ?hsz).trans ?_); (case hsz => (intro h; injection h with h1 h2; omega)))))) (by (repeat (first | (with_reducible assumption) | ((with_reducible refine (Below.cell (by with_reducible assumption) ?hsz).trans ?_); (case hsz => (first | omega | (simp; done) | (simp; omega) | (simp at *; omega)))) | ((with_reducible refine (World.cell?_alloc_lt _ _ _ ?hsz).trans ?_); (case hsz => (first | omega | (simp; done) | (simp; omega) | (simp at *; omega)))) | ((with_reducible refine (World.cell?_setCell_other _ _ _ _ ?hsz).trans ?_); (case hsz => (intro h; injection h with h1 h2; omega)))))) (by (repeat (first | (with_reducible assumption) | ((with_reducible refine (Below.cell (by with_reducible assumption) ?hsz).trans ?_); (case hsz => (first | omega | (simp; done) | (simp; omega) | (simp at *; omega)))) | ((with_reducible refine (World.cell?_alloc_lt _ _ _ ?hsz).trans ?_); (case hsz => (first | omega | (simp; done) | (simp; omega) | (simp at *; omega)))) | ((with_reducible refine (World.cell?_setCell_other _ _ _ _ ?hsz).trans ?_); (case hsz => (intro h; injection h with h1 h2; omega)))))) (by omega) (by omega) (by omega)).mono ?_
        rintro e w1 ⟨rfl, hb1⟩
        rw [hx']
        go_wp2
        go_roundw
        case rel => exact ⟨j + 1, by omega, by go_num, Hn.out, by (repeat (first | (with_reducible assumption) | (with_reducible exact Below.refl _ _) | ((with_reducible refine Below.alloc ?_ ?hsz _); (case hsz => (first | omega | (simp; done) | (simp; omega) | (simp at *; omega)))) | ((with_reducible refine Below.setCell ?_ ?hsz _); (case hsz => (first | omega | (simp; done) | (simp; omega) | (simp at *; omega)))) | (with_reducible refine Below.drew ?_) | (with_reducible refine below_drewN ?_ _) | ((with_reducible refine Below.trans ?_ (Below.mono (by with_reducible assumption) ?hsz)); (case hsz => (first | omega | (simp; done) | (simp; omega) | (simp at *; omega))))))⟩
        case measure => simp [intOf]; omega
    · exfalso
      have := HS.out
      have h2 := List.mem_of_find?_eq_some this
      have h3 := List.find?_some this
      obtain ⟨i, hi, rfl⟩ := List.getElem_of_mem h2
      have h4 := Hall.out ((stL ps xs)[i]) (by rw [List.take_of_length_le (by omega)]; exact h2)
      rw [h3] at h4
      cases h4

end Go.Proofs.YtmgpekdhcghabaaGreat
