/- Plain facts. -/
import Derived.Test.YtmgpekdhcghabaaGreatMG
import Derived.Test.YtmgpekdhcghabaaGreatGR23
import Derived.Test.YtmgpekdhcghabaaGreatGR7
import Derived.Test.YtmgpekdhcghabaaGreatS1
import Derived.Deep.AppendLies
/- Cells of rows whose slice is known, at any later world. -/
namespace Go.Proofs.YtmgpekdhcghabaaGreat
open Go.RowKit

theorem Ints.cellAt {w wr : World} {b m c : Nat} {A : Option Addr} {xs : List Int} (h : Ints w b (.slice A m c) xs) (hb : Below w.heap.size w wr) (k : Nat) (hk : k < xs.length) :
    ∃ g, A = some ⟨g, 0, none⟩ ∧ b ≤ g ∧ g < w.heap.size ∧ wr.cell? ⟨g, k, none⟩ = some (.int .i64 xs[k]) ∧ wr.frozen? ⟨g, k, none⟩ = false := by
  obtain ⟨A', c', hv, -, -, -, hc⟩ := h.form
  injection hv with e1 e2 e3
  subst e1
  exact hc wr hb k hk

theorem Pipes.cellAt {w wr : World} {b m c : Nat} {A : Option Addr} {ps : List Pp} (h : Pipes w b (.slice A m c) ps) (hb : Below w.heap.size w wr) (k : Nat) (hk : k < ps.length) :
    ∃ g, A = some ⟨g, 0, none⟩ ∧ b ≤ g ∧ g < w.heap.size ∧
      wr.cell? ⟨g, k * 5, none⟩ = some (.int .i64 ps[k].fr) ∧ wr.cell? ⟨g, k * 5 + 1, none⟩ = some (.int .i64 ps[k].to) ∧ wr.cell? ⟨g, k * 5 + 2, none⟩ = some (.int .i64 ps[k].le) ∧
      wr.cell? ⟨g, k * 5 + 3, none⟩ = some (.int .i64 ps[k].mo) ∧ wr.cell? ⟨g, k * 5 + 4, none⟩ = some (.int .i64 ps[k].co) := by
  obtain ⟨A', c', hv, -, -, -, hc⟩ := h.form
  injection hv with e1 e2 e3
  subst e1
  exact hc wr hb k hk

end Go.Proofs.YtmgpekdhcghabaaGreat

/- Rows of numbers that are only read: rows of their own, and parts of them. -/
namespace Go.Proofs.YtmgpekdhcghabaaGreat
open Go.RowKit

def Reads (w : World) (v : Value) (xs : List Int) : Prop :=
  ∃ A c, v = .slice A xs.length c ∧ xs.length ≤ c ∧ c ≤ maxLen ∧ xs.length ≤ 4194304 ∧ (0 < xs.length → ∃ g o, A = some ⟨g, o, none⟩ ∧ g < w.heap.size ∧ ∀ j (h : j < xs.length), w.cell? ⟨g, o + j, none⟩ = some (.int .i64 xs[j]))
theorem Reads.keep {w w' : World} {v : Value} {xs : List Int} (h : Reads w v xs) (hb : Below w.heap.size w w') : Reads w' v xs := by
  obtain ⟨A, c, h1, h2, h3, h4, h5⟩ := h
  refine ⟨A, c, h1, h2, h3, h4, fun h0 => ?_⟩
  obtain ⟨g, o, k1, k2, k3⟩ := h5 h0
  exact ⟨g, o, k1, Nat.lt_of_lt_of_le k2 hb.size, fun j hj => (hb.cell (p := ⟨g, o + j, none⟩) k2).trans (k3 j hj)⟩
theorem Ints.reads {w : World} {b : Nat} {v : Value} {xs : List Int} (h : Ints w b v xs) : Reads w v xs := by
  obtain ⟨A, c, hv, h1, h2, h3, hc⟩ := h.form
  refine ⟨A, c, hv, h1, h2, h3, fun h0 => ?_⟩
  obtain ⟨g, hA, -, hg, -, -⟩ := hc w (Below.refl _ _) 0 h0
  refine ⟨g, 0, hA, hg, fun j hj => ?_⟩
  obtain ⟨g', hA', -, -, c0, -⟩ := hc w (Below.refl _ _) j hj
  rw [hA] at hA'
  injection hA' with e
  injection e with e
  subst e
  rw [Nat.zero_add]
  exact c0
theorem Reads.form {w : World} {v : Value} {xs : List Int} (h : Reads w v xs) :
    ∃ A c, v = .slice A xs.length c ∧ xs.length ≤ c ∧ c ≤ maxLen ∧ xs.length ≤ 4194304 ∧ ∀ wr, Below w.heap.size w wr → ∀ k (hk : k < xs.length), ∃ g o, A = some ⟨g, o, none⟩ ∧ g < w.heap.size ∧ wr.cell? ⟨g, o + k, none⟩ = some (.int .i64 xs[k]) := by
  obtain ⟨A, c, h1, h2, h3, h4, h5⟩ := h
  refine ⟨A, c, h1, h2, h3, h4, fun wr hb k hk => ?_⟩
  obtain ⟨g, o, k1, k2, k3⟩ := h5 (by omega)
  exact ⟨g, o, k1, k2, (hb.cell (p := ⟨g, o + k, none⟩) k2).trans (k3 k hk)⟩
theorem Reads.cellAt {w wr : World} {m c : Nat} {A : Option Addr} {xs : List Int} (h : Reads w (.slice A m c) xs) (hb : Below w.heap.size w wr) (k : Nat) (hk : k < xs.length) :
    ∃ g o, A = some ⟨g, o, none⟩ ∧ g < w.heap.size ∧ wr.cell? ⟨g, o + k, none⟩ = some (.int .i64 xs[k]) := by
  obtain ⟨A', c', hv, -, -, -, hc⟩ := h.form
  injection hv with e1 e2 e3
  subst e1
  exact hc wr hb k hk
theorem Reads.at' {w : World} {m c : Nat} {A : Option Addr} {xs : List Int} (h : Reads w (.slice A m c) xs) (h0 : 0 < xs.length) :
    ∃ g o, A = some ⟨g, o, none⟩ ∧ g < w.heap.size ∧ ∀ wr, Below w.heap.size w wr → ∀ k (hk : k < xs.length), wr.cell? ⟨g, o + k, none⟩ = some (.int .i64 xs[k]) := by
  obtain ⟨A', c', hv, -, -, -, h5⟩ := h
  injection hv with e1 e2 e3
  subst e1
  obtain ⟨g, o, k1, k2, k3⟩ := h5 h0
  exact ⟨g, o, k1, k2, fun wr hb k hk => (hb.cell (p := ⟨g, o + k, none⟩) k2).trans (k3 k hk)⟩

end Go.Proofs.YtmgpekdhcghabaaGreat

/- Contracts of the functions of chapter 4 in the model: walks along pipes that are not empty. -/
namespace Go.Proofs.YtmgpekdhcghabaaGreat
open Go.RowKit

abbrev natsI (l : List Nat) : List Int := l.map fun s : Nat => (s : Int)
def sliceLen (v : Value) : Nat := match v with | .slice _ m _ => m | _ => 0

theorem idxOf_at : ∀ (l : List Int) (v : Int) (i : Nat), i < l.length → l.getD i 0 = v → (∀ q, q < i → l.getD q 0 ≠ v) → l.idxOf v = i := by
  intro l
  induction l with
  | nil => intro v i h; simp at h
  | cons x l ih =>
    intro v i hi he hno
    rcases i with _ | i
    · have : x = v := he
      subst this
      simp
    · have h0 : x ≠ v := hno 0 (by omega)
      have := ih v i (by simpa using hi) he (fun q hq => hno (q + 1) (by omega))
      have hb : (x == v) = false := by simpa using h0
      rw [List.idxOf_cons, hb, this]
      rfl
theorem not_in {l : List Int} {v : Int} (h : ∀ q, q < l.length → l.getD q 0 ≠ v) : v ∉ l := by
  intro hv
  obtain ⟨i, hi, he⟩ := List.getElem_of_mem hv
  have := h i hi
  rw [getD_at hi] at this
  exact this he
theorem in_of {l : List Int} {v : Int} {i : Nat} (hi : i < l.length) (he : l.getD i 0 = v) : v ∈ l := by
  rw [getD_at hi] at he
  rw [← he]
  exact List.getElem_mem hi
theorem last_at {l : List Int} {m : Nat} (h : l.length = m + 1) : l.getLastD 0 = l.getD m 0 := by
  rw [List.getLastD_eq_getLast?, List.getLast?_eq_getElem?, h, List.getD_eq_getElem?_getD]
  rfl

/-- what a search downward has found so far -/
def foundTo (p : Nat → Bool) (m j : Nat) (t : Int) : Prop := (t = -1 ∧ ∀ i, j ≤ i → i < m → p i = false) ∨ (∃ q : Nat, t = (q : Int) ∧ j ≤ q ∧ q < m ∧ p q = true ∧ ∀ i, j ≤ i → i < q → p i = false)
theorem found_start (p : Nat → Bool) (m : Nat) : foundTo p m m (-1) := .inl ⟨rfl, fun i h1 h2 => by omega⟩
theorem found_yes {p : Nat → Bool} {m j : Nat} {t : Int} (_h : foundTo p m (j + 1) t) (hj : j < m) (hp : p j = true) : foundTo p m j (j : Int) := .inr ⟨j, rfl, Nat.le_refl _, hj, hp, fun i h1 h2 => by omega⟩
theorem found_no {p : Nat → Bool} {m j : Nat} {t : Int} (h : foundTo p m (j + 1) t) (hp : p j = false) : foundTo p m j t := by
  rcases h with ⟨h1, h2⟩ | ⟨q, h1, h2, h3, h4, h5⟩
  · refine .inl ⟨h1, fun i hi hm => ?_⟩
    by_cases hij : i = j
    · rw [hij]; exact hp
    · exact h2 i (by omega) hm
  · refine .inr ⟨q, h1, by omega, h3, h4, fun i hi hq => ?_⟩
    by_cases hij : i = j
    · rw [hij]; exact hp
    · exact h5 i (by omega) hq
theorem found_end {ps : List Pp} {xs : List Int} {v t : Int} (h : foundTo (openP ps xs v) ps.length 0 t) : (t = -1 ∧ nextP ps xs v = none) ∨ ∃ q : Nat, t = (q : Int) ∧ nextP ps xs v = some q := by
  rcases h with ⟨h1, h2⟩ | ⟨q, h1, -, h3, h4, h5⟩
  · exact .inl ⟨h1, range_none.2 fun i hi => h2 i (by omega) hi⟩
  · exact .inr ⟨q, h1, range_find.2 ⟨h3, h4, fun i hi => h5 i (by omega) hi⟩⟩

set_option maxHeartbeats 4000000 in
set_option maxRecDepth 20000 in
theorem l4Walk_any (n a c2 : Int) (v u : Value) (ps : List Pp) (xs : List Int) (b b' : Nat) (w : World) (hp : Pipes w b v ps) (hx : Ints w b' u xs) (hlen : xs.length = ps.length) (hok : netOkB n ps = true) (a0 : 0 ≤ a) (a1 : a < n) :
    Calls Tryz.prog 75 #[.agg #[.int .i64 n, v], u, .int .i64 a, .int .i64 c2] w fun e w' => ∃ r, e = .returned (.tuple #[r, .int .i64 (walkP ps xs a c2).2]) ∧ Ints w' w.heap.size r (natsI (walkP ps xs a c2).1) ∧ Below w.heap.size w w' := by
  have hp0 := hp
  have hx0 := hx
  obtain ⟨A, c, rfl, hcp1, hcp2, hsp, -⟩ := hp.form
  obtain ⟨A0, c0, rfl, hc1, hc2, hsm, -⟩ := hx.form
  unfold maxLen at hc2 hcp2
  rw [hlen] at hx0 hc1 ⊢
  obtain ⟨n2, n5, hl7, hpo⟩ := netOk_parts hok
  obtain ⟨i0, hi0', hz0, hz1', hz2'⟩ := info_parts int_info
  have HP := Lib.hid (And.intro hlen hpo)
  have bx0 := Box2.new w (.int .i64 n) (.slice A ps.length c) 25
  have hRw : Row ((w.alloc (.cells #[.int .i64 n, .slice A ps.length c] 25)).alloc (.cells #[] 3)) (w.heap.size + 1) (w.heap.size + 1) 0 0 [] := by
    have h := World.ownsRow_lit (e := 3) (base := w.heap.size + 1) (size := 1) (w.alloc (.cells #[.int .i64 n, .slice A ps.length c] 25)) #[] 0 (by simp) (by simp [maxLen]) rfl
    rw [World.size_alloc] at h
    exact ⟨h, by simp [small]⟩
  have hRn : Row (((w.alloc (.cells #[.int .i64 n, .slice A ps.length c] 25)).alloc (.cells #[] 3)).alloc (.cells #[.int .i64 a] 3)) (w.heap.size + 1) (w.heap.size + 2) 1 1 [a] := by
    have h := World.ownsRow_lit (e := 3) (base := w.heap.size + 1) (size := 1) ((w.alloc (.cells #[.int .i64 n, .slice A ps.length c] 25)).alloc (.cells #[] 3)) #[.int .i64 a] 1 (by simp) (by simp [maxLen]) rfl
    simp only [World.size_alloc] at h
    exact ⟨h, by simp [small]⟩
  have hst := walk_start (n := n) (ps := ps) (xs := xs) a0 a1
  clear hlen hpo
  go_enter Tryz.func75, Tryz.ntmps75
  go_wp2
  go_loopw [10, 11] (fun t10 t11 wr => ∃ (nodes : List Int) (walk : List Nat) (W g1 k1 g2 k2 : Nat), walk.length = W ∧ t10 = .slice (some ⟨g1, 0, none⟩) W k1 ∧ t11 = .slice (some ⟨g2, 0, none⟩) (W + 1) k2 ∧ g1 ≠ g2 ∧ walkSt n ps xs nodes walk ∧ goP ps xs c2 (6 - W) nodes walk = walkP ps xs a c2 ∧ Row wr (w.heap.size + 1) g1 W k1 (natsI walk) ∧ Row wr (w.heap.size + 1) g2 (W + 1) k2 nodes ∧ Box2 wr w.heap.size (.int .i64 n) (.slice A ps.length c) ∧ Below w.heap.size w wr) (fun t10 _ _ => 6 - sliceLen t10)
  case atStart => exact ⟨[a], [], 0, w.heap.size + 1, 0, w.heap.size + 2, 1, rfl, rfl, rfl, by omega, hst, rfl, hRw.keep (by (repeat (first | (with_reducible assumption) | (with_reducible exact Below.refl _ _) | ((with_reducible refine Below.alloc ?_ ?hsz _); (case hsz => (first | omega | (simp; done) | (simp; omega) | (simp at *; omega)))) | ((with_reducible refine Below.setCell ?_ ?hsz _); (case hsz => (first | omega | (simp; done) | (simp; omega) | (simp at *; omega)))) | (with_reducible refine Below.drew ?_) | (with_reducible refine below_drewN ?_ _) | ((with_reducible refine Below.trans ?_ (Below.mono (by with_reducible assumption) ?hsz)); (case hsz => (first | omega | (simp; done) | (simp; omega) | (simp at *; omega))))))), hRn, bx0.keep (by (repeat (first | (with_reducible assumption) | (with_reducible exact Below.refl _ _) | ((with_reducible refine Below.alloc ?_ ?hsz _); (case hsz => (first | omega | (simp; done) | (simp; omega) | (simp at *; omega)))) | ((with_reducible refine Below.setCell ?_ ?hsz _); (case hsz => (first | omega | (simp; done) | (simp; omega) | (simp at *; omega)))) | (with_reducible refine Below.drew ?_) | (with_reducible refine below_drewN ?_ _) | ((with_reducible refine Below.trans ?_ (Below.mono (by with_reducible assumption) ?hsz)); (case hsz => (first | omega | (simp; done) | (simp; omega) | (simp at *; omega))))))), by (repeat (first | (with_reducible assumption) | (with_reducible exact Below.refl _ _) | ((with_reducible refine Below.alloc ?_ ?hsz _); (case hsz => (first | omega | (simp; done) | (simp; omega) | (simp at *; omega)))) | ((with_reducible refine Below.setCell ?_ ?hsz _); (case hsz => (first | omega | (simp; done) | (simp; omega) | (simp at *; omega)))) | (with_reducible refine Below.drew ?_) | (with_reducible refine below_drewN ?_ _) | ((with_reducible refine Below.trans ?_ (Below.mono (by with_reducible assumption) ?hsz)); (case hsz => (first | omega | (simp; done) | (simp; omega) | (simp at *; omega))))))⟩
  case round =>
    clear hRw hRn hst bx0
    obtain ⟨nodes, walk, W, g1, k1, g2, k2, hW, rfl, rfl, hg12, hst, hgo, hR1, hR2, bx, hB⟩ := hrel
    have hzb := hB.size
    have hfew := hst.few (by omega)
    have hnl : nodes.length = W + 1 := by rw [hst.1, hW]
    rw [hnl] at hfew
    have hlast := last_at hnl
    obtain ⟨yl, -⟩ := hR2.at' W (by omega)
    rw [← hlast] at yl
    obtain ⟨og1, og2⟩ := hR2.lt
    obtain ⟨oh1, oh2⟩ := hR1.lt
    obtain ⟨cap1, cap2⟩ := hR2.capd
    obtain ⟨cap3, cap4⟩ := hR1.capd
    have hcap2' := cap2
    have hcap4' := cap4
    unfold maxLen at cap2 cap4
    have HS := Lib.hid (And.intro hst (And.intro hgo (And.intro hW hnl)))
    obtain ⟨v0, hv0⟩ : ∃ v0, nodes.getLastD 0 = v0 := ⟨_, rfl⟩
    rw [hv0] at yl
    have HV := Lib.hid hv0
    clear hst hgo hW hnl hlast hv0
    obtain ⟨bs, d0, d1, -, -⟩ := id bx
    go_wp2_with fail
    go_loopw [13, 14] (fun t13 t14 ws => ∃ (j : Nat) (tt : Int), j ≤ ps.length ∧ t14 = .int .i64 ((j : Int) - 1) ∧ t13 = .int .i64 tt ∧ foundTo (openP ps xs v0) ps.length j tt ∧ wr = ws) (fun _ t _ => (intOf t + 1).toNat)
    case atStart => exact ⟨ps.length, -1, Nat.le_refl _, by go_num, rfl, found_start _ _, rfl⟩
    case round =>
      obtain ⟨j, tt, hj, rfl, rfl, hfo, hws⟩ := hrel
      subst hws
      have HF := Lib.hid hfo
      clear hfo
      by_cases hj0 : 0 < j
      · obtain ⟨i, rfl⟩ : ∃ i, j = i + 1 := ⟨j - 1, by omega⟩
        have hil : i < ps.length := by omega
        have hix : i < xs.length := by have := HP.out.1; omega
        have ei : (((i + 1 : Nat) : Int) - 1) = (i : Int) := by omega
        rw [ei]
        obtain ⟨gp, rfl, gp1, gp2, cf, -, -, -, -⟩ := hp0.cellAt hB i hil
        obtain ⟨gx, rfl, gx1, gx2, cx, -⟩ := hx0.cellAt hB i hix
        have hop : openP ps xs v0 i = (decide (ps[i].fr = v0) && decide (0 < xs[i])) := by simp [openP, List.getD_eq_getElem?_getD, hil, hix]
        have HOP := Lib.hid hop
        have hgpw := Nat.lt_of_lt_of_le gp2 hzb
        have hgxw := Nat.lt_of_lt_of_le gx2 hzb
        clear ei hop
        generalize ps[i].fr = fr0 at *
        generalize xs[i] = y0 at *
        by_cases hf : fr0 = v0
        · have hfb : (fr0 == v0) = true := by simpa using hf
          by_cases hy : 0 < y0
          · have hyb : decide (0 < y0) = true := decide_eq_true hy
            have Hn := Lib.hid (found_yes HF.out hil (by rw [HOP.out, decide_eq_true hf, hyb]; rfl))
            clear hf hy
            go_wp2
            go_roundw
            case rel => exact ⟨i, _, by omega, by go_num, rfl, Hn.out, trivial⟩
            case measure => first | (simp [intOf]; done) | (simp [intOf]; omega)
          · have hyb : decide (0 < y0) = false := decide_eq_false hy
            have Hn := Lib.hid (found_no HF.out (by rw [HOP.out, hyb, Bool.and_false]))
            clear hf hy
            go_wp2
            go_roundw
            case rel => exact ⟨i, tt, by omega, by go_num, rfl, Hn.out, trivial⟩
            case measure => first | (simp [intOf]; done) | (simp [intOf]; omega)
        · have hfb : (fr0 == v0) = false := by simpa using hf
          have Hn := Lib.hid (found_no HF.out (by rw [HOP.out, decide_eq_false hf, Bool.false_and]))
          clear hf
          go_wp2
          go_roundw
          case rel => exact ⟨i, tt, by omega, by go_num, rfl, Hn.out, trivial⟩
          case measure => first | (simp [intOf]; done) | (simp [intOf]; omega)
      · have hj00 : j = 0 := by omega
        subst hj00
        have e6 : 6 - W = (5 - W) + 1 := by omega
        rcases found_end HF.out with ⟨rfl, hnx⟩ | ⟨q, rfl, hnx⟩
        · have Hr : Hid (walkP ps xs a c2 = (walk, -1)) := Lib.hid (by
            rw [← HS.out.2.1, e6]
            exact go_none (by rw [HV.out]; exact hnx))
          clear hnx e6
          go_wp2
          refine bodyPost_ret (v := .tuple #[.slice (some ⟨g1, 0, none⟩) W k1, .int .i64 (-1)]) (by simp [results, Tryz.results75, go_sem]) rfl ⟨.slice (some ⟨g1, 0, none⟩) W k1, by rw [Hr.out], ?_, hB⟩
          rw [Hr.out]
          exact hR1.ints.mono (by omega)
        · obtain ⟨hql, hqf, hqx⟩ := next_parts hnx
          have hto : (ps.getD q zeroPp) = ps[q] := by simp [List.getD_eq_getElem?_getD, hql]
          obtain ⟨-, -, t0, t1, -⟩ := pipeOk_parts (HP.out.2 _ (List.getElem_mem hql))
          have HN := Lib.hid (show nextP ps xs (nodes.getLastD 0) = some q by rw [HV.out]; exact hnx)
          have hR1o := hR1.1
          have hrow : ∀ q', (Value.slice (some ⟨g1, 0, none⟩) W k1).ownBlock = some q' → w.heap.size + 1 ≤ q' := fun q' hq => (hR1o.lt q' hq).1
          have HT := Lib.hid (And.intro hto (And.intro t0 t1))
          obtain ⟨v1, hv1⟩ : ∃ v1, ps[q].to = v1 := ⟨_, rfl⟩
          obtain ⟨gp, rfl, gp1, gp2, -⟩ := hp0.cellAt hB q hql
          have H1 := Lib.hid hv1
          clear hnx hto t0 t1 hqf hqx hv1 yl d0 d1
          go_wp2_with (first
            | (at_builtin
               go_must (refine wpList_append_lies _ rfl _ _ 30 rfl (w.heap.size + 1) 3 i0 _ 1 8 Tryz.underlying30 hi0' hz0 hz1' hz2' rfl (by omega) (.slice (some ⟨g1, 0, none⟩) W k1) W _ rfl (hR1o.alloc _) ⟨wr.heap.size, 0, none⟩ 1 1 [.int .i64 (q : Int)] rfl rfl (World.news_of_block (cs := #[.int .i64 (q : Int)]) (t := 3) (fr := (0, 0)) (heap_alloc_new _ _)) (by simp [Value.oneCell']) (by omega) (by unfold maxLen; omega) (by omega) (by simp; omega) _ rfl ?_)
               intro g3 k3 w7 hown7 hgr7 hat7 hlt7
               go_must (have hB7 : Below (w.heap.size + 1) wr w7 := Below.grown (w := wr.alloc (.cells #[.int .i64 (q : Int)] 3)) (by (repeat (first | (with_reducible assumption) | (with_reducible exact Below.refl _ _) | ((with_reducible refine Below.alloc ?_ ?hsz _); (case hsz => (first | omega | (simp; done) | (simp; omega) | (simp at *; omega)))) | ((with_reducible refine Below.setCell ?_ ?hsz _); (case hsz => (first | omega | (simp; done) | (simp; omega) | (simp at *; omega)))) | (with_reducible refine Below.drew ?_) | (with_reducible refine below_drewN ?_ _) | ((with_reducible refine Below.trans ?_ (Below.mono (by with_reducible assumption) ?hsz)); (case hsz => (first | omega | (simp; done) | (simp; omega) | (simp at *; omega))))))) hgr7 (by (first | omega | (simp; done) | (simp; omega) | (simp at *; omega))) hrow)
               go_must (have hBw7 : Below w.heap.size w w7 := hB.trans (hB7.mono (by omega)))
               go_must (have bx7 := (bx.keep (w' := wr.alloc (.cells #[.int .i64 (q : Int)] 3)) (by (repeat (first | (with_reducible assumption) | (with_reducible exact Below.refl _ _) | ((with_reducible refine Below.alloc ?_ ?hsz _); (case hsz => (first | omega | (simp; done) | (simp; omega) | (simp at *; omega)))) | ((with_reducible refine Below.setCell ?_ ?hsz _); (case hsz => (first | omega | (simp; done) | (simp; omega) | (simp at *; omega)))) | (with_reducible refine Below.drew ?_) | (with_reducible refine below_drewN ?_ _) | ((with_reducible refine Below.trans ?_ (Below.mono (by with_reducible assumption) ?hsz)); (case hsz => (first | omega | (simp; done) | (simp; omega) | (simp at *; omega)))))))).grown hgr7 (by intro hh; have := hrow _ hh.symm; omega))
               go_must (have hR27 := (hR2.keep (w' := wr.alloc (.cells #[.int .i64 (q : Int)] 3)) (by (repeat (first | (with_reducible assumption) | (with_reducible exact Below.refl _ _) | ((with_reducible refine Below.alloc ?_ ?hsz _); (case hsz => (first | omega | (simp; done) | (simp; omega) | (simp at *; omega)))) | ((with_reducible refine Below.setCell ?_ ?hsz _); (case hsz => (first | omega | (simp; done) | (simp; omega) | (simp at *; omega)))) | (with_reducible refine Below.drew ?_) | (with_reducible refine below_drewN ?_ _) | ((with_reducible refine Below.trans ?_ (Below.mono (by with_reducible assumption) ?hsz)); (case hsz => (first | omega | (simp; done) | (simp; omega) | (simp at *; omega)))))))).grown hgr7 (by intro hh; exact hg12 (by injection hh)))
               obtain ⟨bs7, d0, d1, -, -⟩ := id bx7
               obtain ⟨gp', hgp', -, -, -, cto, -, -, -⟩ := hp0.cellAt hBw7 q hql
               go_must (have hgp'' : gp' = gp := (by injection hgp' with hgp'; injection hgp' with hgp'; exact hgp'.symm))
               subst hgp''
               rw [H1.out] at cto
               go_must (have hgpw : gp' < w7.heap.size := Nat.lt_of_lt_of_le gp2 hBw7.size)))
          have hs7 := hB7.size
          have hg32 : g3 ≠ g2 := by
            rcases hat7 with h | h
            · have hq : g1 = g3 := (by injection h)
              omega
            · simp at h; omega
          have hR17 : Row w7 (w.heap.size + 1) g3 (W + 1) k3 (natsI (walk ++ [q])) := ⟨by rw [natsI, List.map_append, List.map_append]; exact hown7, by simp [small]; omega⟩
          clear hown7 hgr7 hat7 hR1 hR1o hrow hR2
          go_loopw [15] (fun t ws => ∃ i : Nat, i ≤ W + 1 ∧ t = .int .i64 i ∧ (∀ q', q' < i → nodes.getD q' 0 ≠ v1) ∧ w7 = ws) (fun t _ => W + 1 - (intOf t).toNat)
          case atStart => exact ⟨0, by omega, rfl, fun q' hq => absurd hq (by omega), rfl⟩
          case round =>
            obtain ⟨i, hi, rfl, hno, hws⟩ := hrel
            subst hws
            have HNO := Lib.hid hno
            clear hno
            by_cases hlt : i < W + 1
            · obtain ⟨yi, -⟩ := hR27.at' i hlt
              obtain ⟨yv, hyv⟩ : ∃ yv, nodes.getD i 0 = yv := ⟨_, rfl⟩
              rw [hyv] at yi
              by_cases hyq : yv = v1
              · have hyb : (yv == v1) = true := by simpa using hyq
                have Hr : Hid (walkP ps xs a c2 = (walk ++ [q], (i : Int))) := Lib.hid (by
                  rw [← HS.out.2.1, e6]
                  have hin : (ps.getD q zeroPp).to ∈ nodes := by
                    rw [HT.out.1, H1.out, ← hyq, ← hyv]
                    exact in_of (i := i) (by rw [HS.out.2.2.2]; exact hlt) rfl
                  rw [go_close HN.out hin, HT.out.1, H1.out, idxOf_at nodes v1 i (by rw [HS.out.2.2.2]; exact hlt) (by rw [hyv, hyq]) HNO.out])
                clear hyq hyv
                go_wp2
                refine bodyPost_ret (v := .tuple #[.slice (some ⟨g3, 0, none⟩) (W + 1) k3, .int .i64 (i : Int)]) (by simp [results, Tryz.results75, go_sem]) rfl ⟨.slice (some ⟨g3, 0, none⟩) (W + 1) k3, by rw [Hr.out], ?_, hBw7⟩
                rw [Hr.out]
                exact hR17.ints.mono (by omega)
              · have hyb : (yv == v1) = false := by simpa using hyq
                have Hn := Lib.hid (show ∀ q', q' < i + 1 → nodes.getD q' 0 ≠ v1 by
                  intro q' hq
                  rcases Nat.lt_succ_iff_lt_or_eq.1 hq with h | h
                  · exact HNO.out q' h
                  · subst h; rw [hyv]; exact hyq)
                clear hyq hyv
                go_wp2
                go_roundw
                case rel => exact ⟨i + 1, by omega, by go_num, Hn.out, trivial⟩
                case measure => first | (simp [intOf]; done) | (simp [intOf]; omega)
            · have hnin : (ps.getD q zeroPp).to ∉ nodes := by
                rw [HT.out.1, H1.out]
                exact not_in fun q' hq => HNO.out q' (by rw [HS.out.2.2.2] at hq; omega)
              have HNIN := Lib.hid hnin
              clear hnin
              by_cases hvc : v1 = c2
              · have hvb : (v1 == c2) = true := by simpa using hvc
                have Hr : Hid (walkP ps xs a c2 = (walk ++ [q], -1)) := Lib.hid (by
                  rw [← HS.out.2.1, e6]
                  exact go_end HN.out HNIN.out (by rw [HT.out.1, H1.out, hvc]))
                clear hvc
                go_wp2
                refine bodyPost_ret (v := .tuple #[.slice (some ⟨g3, 0, none⟩) (W + 1) k3, .int .i64 (-1)]) (by simp [results, Tryz.results75, go_sem]) rfl ⟨.slice (some ⟨g3, 0, none⟩) (W + 1) k3, by rw [Hr.out], ?_, hBw7⟩
                rw [Hr.out]
                exact hR17.ints.mono (by omega)
              · have hvb : (v1 == c2) = false := by simpa using hvc
                have hst' := HS.out.1.on HN.out HNIN.out (by rw [HT.out.1]; exact HT.out.2.1) (by rw [HT.out.1]; have := HT.out.2.2; omega)
                rw [HT.out.1, H1.out] at hst'
                have hfew' := hst'.few (by omega)
                have hgo' : goP ps xs c2 (6 - (W + 1)) (nodes ++ [v1]) (walk ++ [q]) = walkP ps xs a c2 := by
                  rw [← HS.out.2.1, e6, go_on HN.out HNIN.out (by rw [HT.out.1, H1.out]; exact hvc), HT.out.1, H1.out]
                  congr 1
                  omega
                have HS' := Lib.hid (And.intro hst' hgo')
                have hR2o := hR27.1
                have hrow : ∀ q', (Value.slice (some ⟨g2, 0, none⟩) (W + 1) k2).ownBlock = some q' → w.heap.size + 1 ≤ q' := fun q' hq => (hR2o.lt q' hq).1
                clear hvc hst' hgo'
                go_wp2_with (first
                  | (at_builtin
                     go_must (refine wpList_append_lies _ rfl _ _ 30 rfl (w.heap.size + 1) 3 i0 _ 1 8 Tryz.underlying30 hi0' hz0 hz1' hz2' rfl (by omega) (.slice (some ⟨g2, 0, none⟩) (W + 1) k2) (W + 1) _ rfl (hR2o.alloc _) ⟨w7.heap.size, 0, none⟩ 1 1 [.int .i64 v1] rfl rfl (World.news_of_block (cs := #[.int .i64 v1]) (t := 3) (fr := (0, 0)) (heap_alloc_new _ _)) (by simp [Value.oneCell']) (by omega) (by unfold maxLen; omega) (by omega) (by simp; omega) _ rfl ?_)
                     intro g4 k4 w8 hown8 hgr8 hat8 hlt8))
                have hB8 : Below (w.heap.size + 1) w7 w8 := Below.grown (w := w7.alloc (.cells #[.int .i64 v1] 3)) (by (repeat (first | (with_reducible assumption) | (with_reducible exact Below.refl _ _) | ((with_reducible refine Below.alloc ?_ ?hsz _); (case hsz => (first | omega | (simp; done) | (simp; omega) | (simp at *; omega)))) | ((with_reducible refine Below.setCell ?_ ?hsz _); (case hsz => (first | omega | (simp; done) | (simp; omega) | (simp at *; omega)))) | (with_reducible refine Below.drew ?_) | (with_reducible refine below_drewN ?_ _) | ((with_reducible refine Below.trans ?_ (Below.mono (by with_reducible assumption) ?hsz)); (case hsz => (first | omega | (simp; done) | (simp; omega) | (simp at *; omega))))))) hgr8 (by (first | omega | (simp; done) | (simp; omega) | (simp at *; omega))) hrow
                have bx8 := (bx7.keep (w' := w7.alloc (.cells #[.int .i64 v1] 3)) (by (repeat (first | (with_reducible assumption) | (with_reducible exact Below.refl _ _) | ((with_reducible refine Below.alloc ?_ ?hsz _); (case hsz => (first | omega | (simp; done) | (simp; omega) | (simp at *; omega)))) | ((with_reducible refine Below.setCell ?_ ?hsz _); (case hsz => (first | omega | (simp; done) | (simp; omega) | (simp at *; omega)))) | (with_reducible refine Below.drew ?_) | (with_reducible refine below_drewN ?_ _) | ((with_reducible refine Below.trans ?_ (Below.mono (by with_reducible assumption) ?hsz)); (case hsz => (first | omega | (simp; done) | (simp; omega) | (simp at *; omega)))))))).grown hgr8 (by intro hh; have := hrow _ hh.symm; omega)
                have hR18 := (hR17.keep (w' := w7.alloc (.cells #[.int .i64 v1] 3)) (by (repeat (first | (with_reducible assumption) | (with_reducible exact Below.refl _ _) | ((with_reducible refine Below.alloc ?_ ?hsz _); (case hsz => (first | omega | (simp; done) | (simp; omega) | (simp at *; omega)))) | ((with_reducible refine Below.setCell ?_ ?hsz _); (case hsz => (first | omega | (simp; done) | (simp; omega) | (simp at *; omega)))) | (with_reducible refine Below.drew ?_) | (with_reducible refine below_drewN ?_ _) | ((with_reducible refine Below.trans ?_ (Below.mono (by with_reducible assumption) ?hsz)); (case hsz => (first | omega | (simp; done) | (simp; omega) | (simp at *; omega)))))))).grown hgr8 (by intro hh; exact hg32 (by injection hh with hh; exact hh.symm))
                have hg34 : g3 ≠ g4 := by
                  rcases hat8 with h | h
                  · have hq : g2 = g4 := (by injection h)
                    omega
                  · simp at h; omega
                have hR28 : Row w8 (w.heap.size + 1) g4 (W + 1 + 1) k4 (nodes ++ [v1]) := ⟨by rw [List.map_append]; exact hown8, by simp [small]; omega⟩
                have hBw8 : Below w.heap.size w w8 := hBw7.trans (hB8.mono (by omega))
                clear hown8 hgr8 hat8 hR27 hR2o hrow
                go_roundw
                case rel => exact ⟨nodes ++ [v1], walk ++ [q], W + 1, g3, k3, g4, k4, by rw [List.length_append, HS.out.2.2.1]; rfl, rfl, rfl, hg34, HS'.out.1, HS'.out.2, hR18, hR28, bx8, hBw8⟩
                case measure => simp [sliceLen]; omega

end Go.Proofs.YtmgpekdhcghabaaGreat
