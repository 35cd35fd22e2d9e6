/- Plain facts. -/
import Derived.Test.YtmgpekdhcghabaaGreatGR4
import Derived.Test.YtmgpekdhcghabaaGreatGR1
import Derived.Test.YtmgpekdhcghabaaGreatGR23
import Derived.Deep.RegionHeld3
/- Contracts of the functions of chapter 1 in the model: ExcessAt, HoldsOk. -/
namespace Go.Proofs.YtmgpekdhcghabaaGreat
open Go.RowKit

set_option maxHeartbeats 1000000 in
set_option maxRecDepth 20000 in
theorem specExcess_any (node n : Int) (v u : Value) (ps : List Pp) (xs : List Int) (b b' : Nat) (w : World) (hp : Pipes w b v ps) (hx : Ints w b' u xs) (hok : flowOkB n ps xs = true) :
    Calls Tryz.prog 74 #[.agg #[.int .i64 n, v], u, .int .i64 node] w fun e w' => e = .returned (.int .i64 (exc node ps xs)) ∧ Below w.heap.size w w' := by
  obtain ⟨hnok, hlen, hall⟩ := flowOk_parts hok
  obtain ⟨_, _, h7, hpip⟩ := netOk_parts hnok
  obtain ⟨A, c, rfl, hc1, hc2, hs, hcell⟩ := hp.form
  obtain ⟨A', c', rfl, hc1', hc2', hs', hcell'⟩ := hx.form
  unfold maxLen at hc2 hc2'
  have Hlen := Lib.hid hlen
  have hl1 : xs.length ≤ ps.length := by omega
  clear hlen
  go_enter Tryz.func74, Tryz.ntmps74
  go_wp2
  go_loop [8, 7] (fun i s => ∃ k : Nat, k ≤ xs.length ∧ i = .int .i64 k ∧ s = .int .i64 (exc node (ps.take k) (xs.take k))) (fun i _ => xs.length - (intOf i).toNat)
  case atStart => exact ⟨0, by omega, rfl, rfl⟩
  case round =>
    obtain ⟨k, hk, rfl, rfl⟩ := hrel
    by_cases hlx : k < xs.length
    · have hlt : k < ps.length := by omega
      obtain ⟨g, rfl, hg1, hg2, c0, c1, c2, c3, c4⟩ := hcell w (Below.refl _ _) k hlt
      obtain ⟨g', rfl, hg1', hg2', c0', _⟩ := hcell' w (Below.refl _ _) k hlx
      have hbd := exc_bd node (ps.take k) (xs.take k) (fun x hx => hall x (List.mem_of_mem_take hx))
      have hl : (ps.take k).length ≤ 7 := by rw [List.length_take]; omega
      have hv := hall _ (List.getElem_mem hlx)
      have v1 := hv.1
      have v2 := hv.2
      have g1 : -280 ≤ exc node (ps.take k) (xs.take k) := by omega
      have g2 : exc node (ps.take k) (xs.take k) ≤ 280 := by omega
      clear hbd hl hv
      have hne := (pipeOk_parts (hpip _ (List.getElem_mem hlt))).2.2.2.2.1
      have Hs := exc_snoc node ps xs k hlt hlx
      by_cases e1 : ps[k].to = node
      · rw [excT_to e1.symm] at Hs
        have e2 : (ps[k].fr == node) = false := by rw [beq_eq_false_iff_ne]; omega
        have e1' : (ps[k].to == node) = true := by simpa using e1
        have HS := Lib.hid Hs
        clear Hs e1 hne
        go_wp2
        go_round
        case rel => exact ⟨k + 1, by omega, by go_num, by rw [HS.out]⟩
        case measure => simp [intOf]; omega
      · have e1' : (ps[k].to == node) = false := by simpa using e1
        by_cases e2 : ps[k].fr = node
        · rw [excT_fr (by omega) e2.symm] at Hs
          have e2' : (ps[k].fr == node) = true := by simpa using e2
          have HS := Lib.hid Hs
          clear Hs e1 e2 hne
          go_wp2
          go_round
          case rel => exact ⟨k + 1, by omega, by go_num, by rw [HS.out, Int.sub_eq_add_neg]⟩
          case measure => simp [intOf]; omega
        · rw [excT_no (by omega) (by omega)] at Hs
          have e2' : (ps[k].fr == node) = false := by simpa using e2
          have HS := Lib.hid Hs
          clear Hs e1 e2 hne
          go_wp2
          go_round
          case rel => exact ⟨k + 1, by omega, by go_num, by rw [HS.out, Int.add_zero]⟩
          case measure => simp [intOf]; omega
    · go_wp2
      go_ret
      exact ⟨ret_int (by rw [List.take_of_length_le (by have := Hlen.out; omega), List.take_of_length_le (by omega)]), by (repeat (first | (with_reducible assumption) | (with_reducible exact Below.refl _ _) | ((with_reducible refine Below.alloc ?_ ?hsz _); (case hsz => (first | omega | (simp; done) | (simp; omega) | (simp at *; omega)))) | ((with_reducible refine Below.setCell ?_ ?hsz _); (case hsz => (first | omega | (simp; done) | (simp; omega) | (simp at *; omega)))) | (with_reducible refine Below.drew ?_) | (with_reducible refine below_drewN ?_ _) | ((with_reducible refine Below.trans ?_ (Below.mono (by with_reducible assumption) ?hsz)); (case hsz => (first | omega | (simp; done) | (simp; omega) | (simp at *; omega))))))⟩

end Go.Proofs.YtmgpekdhcghabaaGreat

/- Contracts of the functions of chapter 1 in the model: BalancedOk. -/
namespace Go.Proofs.YtmgpekdhcghabaaGreat
open Go.RowKit

end Go.Proofs.YtmgpekdhcghabaaGreat

/- Contracts of the functions of chapter 4 in the model: the rings of a flow. -/
namespace Go.Proofs.YtmgpekdhcghabaaGreat
open Go.RowKit

theorem ints_info : (Tryz.prog.info? 30).map (fun i => (i.zero, i.size, i.bytes)) = some (some (.slice none 0 0), 1, 24) := by kernel_rfl

/-- a row of rows of its own -/
def OwnRows (w : World) (b g cap : Nat) (Ls : List (List Int)) : Prop :=
  ∃ vs : List Value, vs.length = Ls.length ∧ w.ownsRow b 30 1 (.slice (some ⟨g, 0, none⟩) Ls.length cap) Ls.length vs ∧ Ls.length ≤ small ∧ ∀ k (h : k < Ls.length) (h' : k < vs.length), Ints w b vs[k] Ls[k]
theorem OwnRows.keep {w w' : World} {b g cap : Nat} {Ls : List (List Int)} (h : OwnRows w b g cap Ls) (hb : Below w.heap.size w w') : OwnRows w' b g cap Ls := by
  obtain ⟨vs, h1, h2, h3, h4⟩ := h
  exact ⟨vs, h1, own_keep h2 (Nat.le_refl _) hb, h3, fun k hk hk' => (h4 k hk hk').keep hb⟩
theorem OwnRows.rows {w : World} {b g cap : Nat} {Ls : List (List Int)} (h : OwnRows w b g cap Ls) : RowsI w b (.slice (some ⟨g, 0, none⟩) Ls.length cap) Ls := by
  obtain ⟨vs, h1, h2, h3, h4⟩ := h
  have hlt := h2.lt g rfl
  obtain ⟨A, c, hv, c1, c2, c3⟩ := own_form h2
  injection hv with e1 e2 e3
  subst e3
  refine ⟨_, _, rfl, c1, c2, h3, fun k hk => ?_⟩
  have hkv : k < vs.length := by omega
  refine ⟨g, vs[k], rfl, hlt.1, hlt.2, ?_, h4 k hk hkv⟩
  obtain ⟨g', hA, -, -, c0, -⟩ := c3 k vs[k] (by simp [hkv])
  rw [← e1] at hA
  injection hA with hA
  injection hA with hA
  subst hA
  exact c0
theorem Ints.alloc1 {w : World} {b : Nat} {v : Value} {xs : List Int} (h : Ints w b v xs) (o : Obj) : Ints (w.alloc o) b v xs := ⟨h.1.alloc o, h.2⟩
/-- a row of numbers lies in another block than a row of rows -/
theorem Ints.other {w w' : World} {b b2 g N k : Nat} {v : Value} {xs : List Int} {vs : List Value} (h : Ints w b v xs) (ho : w.ownsRow b2 30 1 (.slice (some ⟨g, 0, none⟩) N k) N vs) (hg : w.grownBy w' (some g)) : Ints w' b v xs := by
  refine ⟨h.1.kept hg ?_, h.2⟩
  rcases h.1.2 with ⟨h0, -⟩ | ⟨g1, c1, cur1, h0, -, hh, -⟩
  · left; rw [h0]; rfl
  · right
    rw [h0]
    intro e
    have e : g1 = g := by injection e
    subst e
    rcases ho.2 with ⟨h2, -⟩ | ⟨g2, c2, cur2, h2, -, hh2, -⟩
    · cases h2
    · injection h2 with e1 _ _
      injection e1 with e1
      injection e1 with e1
      subst e1
      rw [hh] at hh2
      injection hh2 with e2
      injection e2 with _ e3 _
      exact absurd e3 (by decide)

theorem rows_snoc {w w6 : World} {b g cap g6 k6 : Nat} {Ls : List (List Int)} {L : List Int} {row : Value} {vs : List Value} (h1 : vs.length = Ls.length) (h2 : w.ownsRow b 30 1 (.slice (some ⟨g, 0, none⟩) Ls.length cap) Ls.length vs)
    (h4 : ∀ k (h : k < Ls.length) (h' : k < vs.length), Ints w b vs[k] Ls[k]) (hr : Ints w b row L) (hs : Ls.length + 1 ≤ small) (hg : w.grownBy w6 (some g))
    (ho : w6.ownsRow b 30 1 (.slice (some ⟨g6, 0, none⟩) (Ls.length + 1) k6) (Ls.length + 1) (vs ++ [row])) : OwnRows w6 b g6 k6 (Ls ++ [L]) := by
  have hl : (Ls ++ [L]).length = Ls.length + 1 := by simp
  refine ⟨vs ++ [row], by simp [h1], by rw [hl]; exact ho, by rw [hl]; exact hs, fun k hk hk' => ?_⟩
  by_cases hlt : k < Ls.length
  · have e1 : (vs ++ [row])[k] = vs[k]'(by omega) := List.getElem_append_left (by omega)
    have e2 : (Ls ++ [L])[k] = Ls[k] := List.getElem_append_left hlt
    rw [e1, e2]
    exact (h4 k hlt (by omega)).other h2 hg
  · have hkl : k = Ls.length := by omega
    subst hkl
    have e1 : (vs ++ [row])[Ls.length] = row := by simp [← h1]
    have e2 : (Ls ++ [L])[Ls.length] = L := by simp
    rw [e1, e2]
    exact hr.other h2 hg

section
variable {ps : List Pp} {xs : List Int} {k f : Nat}
theorem first_at (hk : k < xs.length) (hx : 0 < xs.getD k 0) (hz : ∀ i, i < k → xs.getD i 0 = 0) : firstP xs = some k :=
  range_find.2 ⟨hk, decide_eq_true hx, fun i hi => decide_eq_false (by rw [hz i hi]; omega)⟩
theorem rings_on (h : firstP xs = some k) : ringsP ps (f + 1) xs = (leastP xs (ringP ps xs k) :: natsI (ringP ps xs k)) :: ringsP ps f (lessP (leastP xs (ringP ps xs k)) xs (ringP ps xs k)) := by
  conv => lhs; rw [ringsP, h]
theorem rings_nil (hz : ∀ i, i < xs.length → xs.getD i 0 = 0) : ringsP ps f xs = [] := by
  have h : firstP xs = none := range_none.2 fun i hi => decide_eq_false (by rw [hz i hi]; omega)
  cases f with
  | zero => rfl
  | succ f => rw [ringsP, h]
theorem pos_some (hk : k < xs.length) (hx : 0 < xs.getD k 0) : 0 < posN xs := by
  unfold posN
  exact List.countP_pos_iff.2 ⟨k, List.mem_range.2 hk, decide_eq_true hx⟩
theorem pos_le : posN xs ≤ xs.length := by
  have := List.countP_le_length (p := fun k => decide (0 < xs.getD k 0)) (l := List.range xs.length)
  unfold posN; simpa using this
end

/-- the rings of a flow -/
def ringsL (ps : List Pp) (xs : List Int) : List (List Int) := ringsP ps 8 xs

set_option maxHeartbeats 4000000 in
set_option maxRecDepth 20000 in
theorem l4Rings_any (n : Int) (v u : Value) (ps : List Pp) (xs : List Int) (b b' : Nat) (w : World) (hp : Pipes w b v ps) (hx : Ints w b' u xs) (hlen : xs.length = ps.length) (hok : netOkB n ps = true) (hxb : ∀ i, 0 ≤ xs.getD i 0 ∧ xs.getD i 0 ≤ 40) :
    Calls Tryz.prog 78 #[.agg #[.int .i64 n, v], u] w fun e w' => ∃ g cap : Nat, e = .returned (.slice (some ⟨g, 0, none⟩) (ringsL ps xs).length cap) ∧ OwnRows w' w.heap.size g cap (ringsL ps xs) ∧ Below w.heap.size w w' := by
  have hp0 := hp
  have hx0 := hx
  obtain ⟨A, c, rfl, hcp1, hcp2, hsp, -⟩ := hp.form
  obtain ⟨A0, c0, rfl, hc1, hc2, hsm, -⟩ := hx.form
  unfold maxLen at hc2 hcp2
  obtain ⟨n2, n5, hl7, hpo⟩ := netOk_parts hok
  obtain ⟨i0, hi0', hz0, hz1', hz2'⟩ := info_parts int_info
  obtain ⟨iS, hiS, hS0, hS1, hS2⟩ := info_parts ints_info
  have HP := Lib.hid (And.intro hok hpo)
  have bx0 := Box2.new w (.int .i64 n) (.slice A ps.length c) 25
  have hO0 : OwnRows ((w.alloc (.cells #[.int .i64 n, .slice A ps.length c] 25)).alloc (.cells #[] 30)) (w.heap.size + 1) (w.heap.size + 1) 0 [] := by
    have h := World.ownsRow_lit (e := 30) (base := w.heap.size + 1) (size := 1) (w.alloc (.cells #[.int .i64 n, .slice A ps.length c] 25)) #[] 0 (by simp) (by simp [maxLen]) rfl
    rw [World.size_alloc] at h
    exact ⟨[], rfl, h, by simp [small], fun k hk => absurd hk (by simp)⟩
  have hpos : posN xs ≤ 8 := by have := pos_le (xs := xs); omega
  have HX := Lib.hid hxb
  clear hok hpo hxb
  go_enter Tryz.func78, Tryz.ntmps78
  go_wp2
  go_loopw [1, 5, 6] (fun t1 t5 t6 wr => ∃ (k f g cap : Nat) (Ls : List (List Int)) (N : Nat) (ys : List Int) (bf : Nat) (fl : Value), k ≤ ps.length ∧ t6 = .int .i64 k ∧ t1 = fl ∧ Ints wr bf fl ys ∧ ys.length = ps.length ∧ (∀ i, 0 ≤ ys.getD i 0 ∧ ys.getD i 0 ≤ 40) ∧ (∀ i, i < k → ys.getD i 0 = 0) ∧ posN ys ≤ f ∧ Ls.length + f ≤ 8 ∧ N = Ls.length ∧ t5 = .slice (some ⟨g, 0, none⟩) N cap ∧ OwnRows wr (w.heap.size + 1) g cap Ls ∧ Ls ++ ringsP ps f ys = ringsL ps xs ∧ Box2 wr w.heap.size (.int .i64 n) (.slice A ps.length c) ∧ Below w.heap.size w wr) (fun _ _ t _ => ps.length - (intOf t).toNat)
  case atStart => exact ⟨0, 8, w.heap.size + 1, 0, [], 0, xs, b', _, by omega, rfl, rfl, hx0.keep (by (repeat (first | (with_reducible assumption) | (with_reducible exact Below.refl _ _) | ((with_reducible refine Below.alloc ?_ ?hsz _); (case hsz => (first | omega | (simp; done) | (simp; omega) | (simp at *; omega)))) | ((with_reducible refine Below.setCell ?_ ?hsz _); (case hsz => (first | omega | (simp; done) | (simp; omega) | (simp at *; omega)))) | (with_reducible refine Below.drew ?_) | (with_reducible refine below_drewN ?_ _) | ((with_reducible refine Below.trans ?_ (Below.mono (by with_reducible assumption) ?hsz)); (case hsz => (first | omega | (simp; done) | (simp; omega) | (simp at *; omega))))))), hlen, HX.out, fun i hi => absurd hi (by omega), hpos, by simp, rfl, rfl, hO0, rfl, bx0.keep (by (repeat (first | (with_reducible assumption) | (with_reducible exact Below.refl _ _) | ((with_reducible refine Below.alloc ?_ ?hsz _); (case hsz => (first | omega | (simp; done) | (simp; omega) | (simp at *; omega)))) | ((with_reducible refine Below.setCell ?_ ?hsz _); (case hsz => (first | omega | (simp; done) | (simp; omega) | (simp at *; omega)))) | (with_reducible refine Below.drew ?_) | (with_reducible refine below_drewN ?_ _) | ((with_reducible refine Below.trans ?_ (Below.mono (by with_reducible assumption) ?hsz)); (case hsz => (first | omega | (simp; done) | (simp; omega) | (simp at *; omega))))))), by (repeat (first | (with_reducible assumption) | (with_reducible exact Below.refl _ _) | ((with_reducible refine Below.alloc ?_ ?hsz _); (case hsz => (first | omega | (simp; done) | (simp; omega) | (simp at *; omega)))) | ((with_reducible refine Below.setCell ?_ ?hsz _); (case hsz => (first | omega | (simp; done) | (simp; omega) | (simp at *; omega)))) | (with_reducible refine Below.drew ?_) | (with_reducible refine below_drewN ?_ _) | ((with_reducible refine Below.trans ?_ (Below.mono (by with_reducible assumption) ?hsz)); (case hsz => (first | omega | (simp; done) | (simp; omega) | (simp at *; omega))))))⟩
  case round =>
    clear hO0 hpos bx0 hx0 hx hc1 hsm hlen
    obtain ⟨k, f, g, cap, Ls, N, ys, bf, fl, hk, rfl, rfl, hy, hyl, hyb, hyz, hpf, hLf, hN, rfl, hO, hcat, bx, hB⟩ := hrel
    obtain ⟨AY, cY, rfl, hcy1, hcy2, -, -⟩ := hy.form
    unfold maxLen at hcy2
    have HY := Lib.hid (And.intro hyl (And.intro hyb (And.intro hyz (And.intro hpf (And.intro hLf (And.intro hN hcat))))))
    have hyl' := hyl
    rw [hyl] at hcy1 hy ⊢
    clear hyl hyb hyz hpf hLf hN hcat
    by_cases hlt : k < ps.length
    · go_wp2_with fail
      go_loopw [1, 5] (fun t1 t5 ws => ∃ (f g cap : Nat) (Ls : List (List Int)) (N : Nat) (ys : List Int) (bf : Nat) (fl : Value), t1 = fl ∧ Ints ws bf fl ys ∧ ys.length = ps.length ∧ (∀ i, 0 ≤ ys.getD i 0 ∧ ys.getD i 0 ≤ 40) ∧ (∀ i, i < k → ys.getD i 0 = 0) ∧ posN ys ≤ f ∧ Ls.length + f ≤ 8 ∧ N = Ls.length ∧ t5 = .slice (some ⟨g, 0, none⟩) N cap ∧ OwnRows ws (w.heap.size + 1) g cap Ls ∧ Ls ++ ringsP ps f ys = ringsL ps xs ∧ Box2 ws w.heap.size (.int .i64 n) (.slice A ps.length c) ∧ Below w.heap.size w ws) (fun _ t _ => 9 - sliceLen t)
      case atStart => exact ⟨f, g, cap, Ls, N, ys, bf, _, rfl, hy, HY.out.1, HY.out.2.1, HY.out.2.2.1, HY.out.2.2.2.1, HY.out.2.2.2.2.1, HY.out.2.2.2.2.2.1, rfl, hO, HY.out.2.2.2.2.2.2, bx, hB⟩
      case round =>
        clear HY hy hyl' hO bx hB hcy1 hcy2
        obtain ⟨f, g, cap, Ls, N, ys, bf, fl, rfl, hy, hyl, hyb, hyz, hpf, hLf, hN, rfl, hO, hcat, bx, hB⟩ := hrel
        obtain ⟨AY, cY, rfl, hcy1, hcy2, -, -⟩ := hy.form
        unfold maxLen at hcy2
        have hyk : k < ys.length := by omega
        rw [hyl] at hcy1 hy ⊢
        have hzb := hB.size
        obtain ⟨gy, rfl, gy1, gy2, cy, -⟩ := hy.cellAt (Below.refl _ _) k hyk
        have hgd : ys.getD k 0 = ys[k] := getD_at hyk
        have HY := Lib.hid (And.intro hyl (And.intro hyb (And.intro hyz (And.intro hpf (And.intro hLf (And.intro hN hcat))))))
        obtain ⟨bs, d0, d1, -, -⟩ := id bx
        have HC := Lib.hid hgd
        clear hyl hyb hyz hpf hLf hN hcat hgd
        generalize ys[k] = y0 at *
        by_cases hy0 : 0 < y0
        · have hyd : decide (0 < y0) = true := decide_eq_true hy0
          have e : ps.getD k zeroPp = ps[k] := by simp [List.getD_eq_getElem?_getD, hlt]
          obtain ⟨f0, f1, -⟩ := pipeOk_parts (HP.out.2 _ (List.getElem_mem hlt))
          obtain ⟨hend, hne, hnd, hop⟩ := ring_parts (n := n) (ps := ps) (xs := ys) (k := k) (fun p hp => by obtain ⟨p0, p1, p2, p3, -⟩ := pipeOk_parts (HP.out.2 p hp); exact ⟨p0, p1, p2, p3⟩) n5 hlt (by rw [HC.out]; exact hy0)
          rw [e] at hend
          have hring : ringP ps ys k = (walkP ps ys ps[k].fr (-1)).1.drop (walkP ps ys ps[k].fr (-1)).2.toNat := by rw [ringP, e]
          obtain ⟨-, -, hat, hw6⟩ := hend
          obtain ⟨rl1, rl2, rl3, rl4⟩ := ring_less (ps := ps) (xs := ys) HY.out.1 HY.out.2.1 hne hnd hop
          have hfirst := first_at hyk (by rw [HC.out]; exact hy0) HY.out.2.2.1
          have hpk := pos_some hyk (by rw [HC.out]; exact hy0)
          have HR := Lib.hid (And.intro hne (And.intro hnd (And.intro hop (And.intro rl3 (And.intro rl4 (And.intro hfirst hpk))))))
          obtain ⟨gp, hgp, gp1, gp2, cf, -⟩ := hp0.cellAt hB k hlt
          subst hgp
          have hgpw := Nat.lt_of_lt_of_le gp2 hzb
          clear e hne hnd hop rl3 rl4 hfirst hpk hy0
          generalize ps[k].fr = fr0 at *
          go_wp2_with fail
          go_region_held3 (fun w' => w'.cell? ⟨w.heap.size, 0, none⟩ = some (.int .i64 n) ∧ w'.cell? ⟨w.heap.size, 1, none⟩ = some (.slice (some ⟨gp, 0, none⟩) ps.length c) ∧ w'.cell? ⟨gp, k * 5, none⟩ = some (.int .i64 fr0))
            (first | exact ⟨q0, q1, q2⟩ | go_keep)
            ((go_at_call 75; (with_reducible refine (l4Walk_any n fr0 (-1) _ _ ps ys b bf _ ((hp0.keep hB).keep (by (repeat (first | (with_reducible assumption) | (with_reducible exact Below.refl _ _) | ((with_reducible refine Below.alloc ?_ ?hsz _); (case hsz => (first | omega | (simp; done) | (simp; omega) | (simp at *; omega)))) | ((with_reducible refine Below.setCell ?_ ?hsz _); (case hsz => (first | omega | (simp; done) | (simp; omega) | (simp at *; omega)))) | (with_reducible refine Below.drew ?_) | (with_reducible refine below_drewN ?_ _) | ((with_reducible refine Below.trans ?_ (Below.mono (by with_reducible assumption) ?hsz)); (case hsz => (first | omega | (simp; done) | (simp; omega) | (simp at *; omega)))))))) (hy.keep (by (repeat (first | (with_reducible assumption) | (with_reducible exact Below.refl _ _) | ((with_reducible refine Below.alloc ?_ ?hsz _); (case hsz => (first | omega | (simp; done) | (simp; omega) | (simp at *; omega)))) | ((with_reducible refine Below.setCell ?_ ?hsz _); (case hsz => (first | omega | (simp; done) | (simp; omega) | (simp at *; omega)))) | (with_reducible refine Below.drew ?_) | (with_reducible refine below_drewN ?_ _) | ((with_reducible refine Below.trans ?_ (Below.mono (by with_reducible assumption) ?hsz)); (case hsz => (first | omega | (simp; done) | (simp; omega) | (simp at *; omega)))))))) HY.out.1 HP.out.1 f0 f1).mono ?_); rintro e w2 ⟨r, rfl, hr, hb2⟩; have hb2' : Below wr.heap.size wr w2 := (by (repeat (first | (with_reducible assumption) | (with_reducible exact Below.refl _ _) | ((with_reducible refine Below.alloc ?_ ?hsz _); (case hsz => (first | omega | (simp; done) | (simp; omega) | (simp at *; omega)))) | ((with_reducible refine Below.setCell ?_ ?hsz _); (case hsz => (first | omega | (simp; done) | (simp; omega) | (simp at *; omega)))) | (with_reducible refine Below.drew ?_) | (with_reducible refine below_drewN ?_ _) | ((with_reducible refine Below.trans ?_ (Below.mono (by with_reducible assumption) ?hsz)); (case hsz => (first | omega | (simp; done) | (simp; omega) | (simp at *; omega))))))); have bx2 := bx.keep hb2'; have q2 := (hb2'.cell (p := ⟨gp, k * 5, none⟩) hgpw).trans cf; obtain ⟨bs2, q0, q1, -, -⟩ := id bx2))
          have hO2 := hO.keep hb2'
          have hy2 := hy.keep hb2'
          have hB2 : Below w.heap.size w w2 := hB.trans (hb2'.mono hzb)
          have hs2 := hb2'.size
          obtain ⟨WK, hWK⟩ : ∃ WK, (walkP ps ys fr0 (-1)).1 = WK := ⟨_, rfl⟩
          obtain ⟨at2, hat2⟩ : ∃ at2, (walkP ps ys fr0 (-1)).2 = at2 := ⟨_, rfl⟩
          rw [hWK] at hr hring hat hw6
          rw [hat2] at hring hat ⊢
          have hWne : 0 < WK.length := by
            rcases Nat.eq_zero_or_pos WK.length with h0 | h0
            · exfalso
              apply HR.out.1
              rw [hring, List.length_eq_zero_iff.1 h0]
              simp
            · exact h0
          have hnW : (natsI WK).length = WK.length := by simp
          obtain ⟨gr, cr, rfl, hRr⟩ := hr.row (by rw [hnW]; exact hWne)
          obtain ⟨or1, or2⟩ := hRr.lt
          obtain ⟨oc1, oc2⟩ := hRr.capd
          have oc2' := oc2
          rw [hnW] at hRr oc1 ⊢
          have hcells : ∀ o, o < WK.length → ∀ j (h : j < (natsI (WK.drop o)).length), w2.cell? ⟨gr, o + j, none⟩ = some (.int .i64 (natsI (WK.drop o))[j]) := by
            intro o ho j hj
            have hj2 : o + j < WK.length := by simp at hj; omega
            rw [(hRr.at' (o + j) hj2).1]
            simp [natsI, List.getD_eq_getElem?_getD, hj2]
          have HW := Lib.hid (And.intro hWK (And.intro hnW hcells))
          clear hWK hat2 hnW hcells hr hRr hy hO bx hb2 hb2' q2 d0 d1 cy cf
          unfold maxLen at oc2
          rcases hat with rfl | ⟨ha0, ha1⟩
          · have hRG : ringP ps ys k = WK := by rw [hring]; simp
            rw [hRG] at rl1 rl2
            have HRG := Lib.hid hRG
            have hL : Lies w2 (.slice (some ⟨gr, 0, none⟩) WK.length cr) (natsI WK) := ⟨gr, 0, cr, by rw [HW.out.2.1], or2, by rw [HW.out.2.1]; exact oc1, oc2', by have := HW.out.2.2 0 hWne; simpa using this⟩
            have hml : (natsI WK).length = WK.length := HW.out.2.1
            have hm0 : 0 < WK.length := hWne
            have hl6 : WK.length ≤ 6 := hw6
            clear hring hRG
            go_wp2_with fail
            all_goals
              refine (l4Least_any bf _ _ ys (WK) _ hy2 hL (fun q' hq' => by have := (HR.out.2.2.1 q' (by rw [HRG.out]; exact hq')).1; rw [HY.out.1]; exact this) hl6).mono ?_
              rintro e w3 ⟨rfl, hb3⟩
              have hy3 := hy2.keep hb3
              have hL3 := hL.keep hb3
              have hO3 := hO2.keep hb3
              have bx3 := bx2.keep hb3
              have hB3 : Below w.heap.size w w3 := hB2.trans (hb3.mono (by omega))
              have hs3 := hb3.size
              obtain ⟨D, hD⟩ : ∃ D, leastP ys (WK) = D := ⟨_, rfl⟩
              rw [hD] at rl1 rl2 ⊢
              have HD := Lib.hid hD
              clear hD hb3
              go_wp2_with fail
              refine (l4Less_any bf D _ _ ys (WK) _ hy3 hL3 (fun q' hq' => by have := (HR.out.2.2.1 q' (by rw [HRG.out]; exact hq')).1; rw [HY.out.1]; exact this) hl6 (by rw [← HRG.out]; exact HR.out.2.1) HY.out.2.1 (by omega) (by rw [HY.out.1]; omega)).mono ?_
              rintro e w4 ⟨r4, rfl, hr4, hb4⟩
              have hlen4 : (lessP D ys (WK)).length = ps.length := by rw [less_len]; exact HY.out.1
              obtain ⟨A4, c4, rfl, -, -, -, -⟩ := hr4.form
              rw [hlen4] at hr4 ⊢
              have hL4 := (hL3.keep hb4).keep (w' := w4.alloc (.cells #[.int .i64 D] 3)) (by (repeat (first | (with_reducible assumption) | (with_reducible exact Below.refl _ _) | ((with_reducible refine Below.alloc ?_ ?hsz _); (case hsz => (first | omega | (simp; done) | (simp; omega) | (simp at *; omega)))) | ((with_reducible refine Below.setCell ?_ ?hsz _); (case hsz => (first | omega | (simp; done) | (simp; omega) | (simp at *; omega)))) | (with_reducible refine Below.drew ?_) | (with_reducible refine below_drewN ?_ _) | ((with_reducible refine Below.trans ?_ (Below.mono (by with_reducible assumption) ?hsz)); (case hsz => (first | omega | (simp; done) | (simp; omega) | (simp at *; omega)))))))
              have hO4 := hO3.keep hb4
              have bx4 := bx3.keep hb4
              have hB4 : Below w.heap.size w w4 := hB3.trans (hb4.mono (by omega))
              have hs4 := hb4.size
              have hz4 := hB4.size
              obtain ⟨g9, o9, c9, hv9, -, -, -, hc9⟩ := hL4
              injection hv9 with e1 e2 e3
              injection e1 with e1
              injection e1 with e1 e4
              subst e1
              subst e4
              have hnews := news_lies hc9
              have hownL := World.ownsRow_lit (e := 3) (base := w4.heap.size) (size := 1) w4 #[.int .i64 D] 1 (Nat.le_refl _) (by simp [maxLen]) rfl
              obtain ⟨vs, v1, v2, v3, v4⟩ := hO4
              have hN := HY.out.2.2.2.2.2.1
              have hg1 := (v2.lt g rfl).1
              rw [← hN] at v2 v3
              have hLf := HY.out.2.2.2.2.1
              rw [← hN] at hLf
              have V4 := Lib.hid v4
              have V1 := Lib.hid v1
              have hdl := hml
              clear v4 v1 hN hlen4 hb4 hc9 e2 e3
              go_wp2_with (first
                | (at_builtin
                   (refine wpList_append_lies _ rfl _ _ 30 rfl w4.heap.size 3 i0 _ 1 8 Tryz.underlying30 hi0' hz0 hz1' hz2' rfl (by omega) (.slice (some ⟨w4.heap.size, 0, none⟩) 1 1) 1 [.int .i64 D] rfl hownL ⟨gr, 0, none⟩ (WK.length) (cr) ((natsI (WK)).map (Value.int .i64)) rfl (by rw [List.length_map, Nat.mul_one]; exact hdl) hnews (by intro u' hu'; obtain ⟨y', -, rfl⟩ := List.mem_map.1 hu'; rfl) hm0 (by unfold maxLen; omega) (by omega) (by simp) _ rfl ?_)
                   intro g5 k5 w5 hown5 hgr5 hat5 hlt5
                   have hB5 : Below w4.heap.size w4 w5 := Below.grown (w := w4.alloc (.cells #[.int .i64 D] 3)) (by (repeat (first | (with_reducible assumption) | (with_reducible exact Below.refl _ _) | ((with_reducible refine Below.alloc ?_ ?hsz _); (case hsz => (first | omega | (simp; done) | (simp; omega) | (simp at *; omega)))) | ((with_reducible refine Below.setCell ?_ ?hsz _); (case hsz => (first | omega | (simp; done) | (simp; omega) | (simp at *; omega)))) | (with_reducible refine Below.drew ?_) | (with_reducible refine below_drewN ?_ _) | ((with_reducible refine Below.trans ?_ (Below.mono (by with_reducible assumption) ?hsz)); (case hsz => (first | omega | (simp; done) | (simp; omega) | (simp at *; omega))))))) hgr5 (by (first | omega | (simp; done) | (simp; omega) | (simp at *; omega))) (fun q hq => by have hq' : w4.heap.size = q := (by injection hq); omega)
                   have hs5 := hB5.size
                   have hO5 := (own_keep v2 (Nat.le_refl _) hB5).alloc (.cells #[.slice (some ⟨g5, 0, none⟩) (1 + (WK.length)) k5] 30))
                | (at_builtin
                   (refine wpList_append_lies _ rfl _ _ 28 rfl (w.heap.size + 1) 30 iS _ 1 24 Tryz.underlying28 hiS hS0 hS1 hS2 rfl (by omega) (.slice (some ⟨g, 0, none⟩) N cap) N vs rfl hO5 ⟨w5.heap.size, 0, none⟩ 1 1 [.slice (some ⟨g5, 0, none⟩) (1 + (WK.length)) k5] rfl rfl (World.news_of_block (cs := #[.slice (some ⟨g5, 0, none⟩) (1 + (WK.length)) k5]) (t := 30) (fr := (0, 0)) (heap_alloc_new _ _)) (by simp [Value.oneCell']) (by omega) (by unfold maxLen; omega) (by omega) (by simp; omega) _ rfl ?_)
                   intro g6 k6 w6 hown6 hgr6 hat6 hlt6))
              have hI5 : Ints w5 w4.heap.size (.slice (some ⟨g5, 0, none⟩) (1 + (WK.length)) k5) (D :: natsI (WK)) := ⟨by rw [show (D :: natsI (WK)).length = 1 + (WK.length) by rw [List.length_cons, hdl]; omega]; exact hown5, by rw [List.length_cons, hdl]; unfold small; omega⟩
              have hI5' := (hI5.mono (b' := w.heap.size + 1) (by omega)).alloc1 (.cells #[.slice (some ⟨g5, 0, none⟩) (1 + (WK.length)) k5] 30)
              have hr6 := ((hr4.keep hB5).alloc1 (.cells #[.slice (some ⟨g5, 0, none⟩) (1 + (WK.length)) k5] 30)).other hO5 hgr6
              have hN := HY.out.2.2.2.2.2.1
              have hO6 : OwnRows w6 (w.heap.size + 1) g6 k6 (Ls ++ [D :: natsI (WK)]) := rows_snoc V1.out (by rw [← hN]; exact hO5) (fun k hk hk' => ((V4.out k hk hk').keep hB5).alloc1 _) hI5' (by unfold small; omega) hgr6 (by rw [← hN]; exact hown6)
              have bx6 := ((bx4.keep hB5).keep (w' := w5.alloc (.cells #[.slice (some ⟨g5, 0, none⟩) (1 + (WK.length)) k5] 30)) (by (repeat (first | (with_reducible assumption) | (with_reducible exact Below.refl _ _) | ((with_reducible refine Below.alloc ?_ ?hsz _); (case hsz => (first | omega | (simp; done) | (simp; omega) | (simp at *; omega)))) | ((with_reducible refine Below.setCell ?_ ?hsz _); (case hsz => (first | omega | (simp; done) | (simp; omega) | (simp at *; omega)))) | (with_reducible refine Below.drew ?_) | (with_reducible refine below_drewN ?_ _) | ((with_reducible refine Below.trans ?_ (Below.mono (by with_reducible assumption) ?hsz)); (case hsz => (first | omega | (simp; done) | (simp; omega) | (simp at *; omega)))))))).grown hgr6 (by intro hh; have hh2 : w.heap.size = g := (by injection hh); omega)
              have hB6 : Below w.heap.size w w6 := Below.grown (w := w5.alloc (.cells #[.slice (some ⟨g5, 0, none⟩) (1 + (WK.length)) k5] 30)) (Below.alloc (hB4.trans (hB5.mono (by omega))) (by omega) _) hgr6 (by simp; omega) (fun q hq => by have hq' : g = q := (by injection hq); omega)
              have hpf := HY.out.2.2.2.1
              have hfin : (Ls ++ [D :: natsI (WK)]) ++ ringsP ps (f - 1) (lessP D ys (WK)) = ringsL ps xs := by
                have hpk := HR.out.2.2.2.2.2.2
                rw [← HY.out.2.2.2.2.2.2, show f = (f - 1) + 1 by omega, rings_on HR.out.2.2.2.2.2.1, HRG.out, HD.out, List.append_assoc]
                simp
              have hp6 : posN (lessP D ys (WK)) ≤ f - 1 := by
                have h4 := HR.out.2.2.2.2.1
                rw [HRG.out, HD.out] at h4
                omega
              have hb6 : ∀ i, 0 ≤ (lessP D ys (WK)).getD i 0 ∧ (lessP D ys (WK)).getD i 0 ≤ 40 := by
                intro i
                have h3 := HR.out.2.2.2.1 i
                rw [HRG.out, HD.out] at h3
                have := HY.out.2.1 i
                omega
              have hz6 : ∀ i, i < k → (lessP D ys (WK)).getD i 0 = 0 := by
                intro i hi
                have h3 := HR.out.2.2.2.1 i
                rw [HRG.out, HD.out] at h3
                have := HY.out.2.2.1 i hi
                omega
              have hf1 : 1 ≤ f := by have := HR.out.2.2.2.2.2.2; omega
              clear hown5 hgr5 hat5 hown6 hgr6 hat6
              go_roundw
              case rel => exact ⟨f - 1, g6, k6, Ls ++ [D :: natsI (WK)], N + 1, lessP D ys (WK), _, _, rfl, hr6, by rw [less_len]; exact HY.out.1, hb6, hz6, hp6, by rw [List.length_append, ← hN]; simp; omega, by rw [List.length_append, ← hN]; rfl, rfl, hO6, hfin, bx6, hB6⟩
              case measure => simp [sliceLen]; omega
          · obtain ⟨q, rfl⟩ : ∃ q : Nat, at2 = (q : Int) := ⟨at2.toNat, by omega⟩
            have hRG : ringP ps ys k = WK.drop q := by rw [hring]; simp
            rw [hRG] at rl1 rl2
            have HRG := Lib.hid hRG
            have hq1 : q < WK.length := by omega
            have hml : (natsI (WK.drop q)).length = WK.length - q := by simp
            have hL : Lies w2 (.slice (some ⟨gr, q, none⟩) (WK.length - q) (cr - q)) (natsI (WK.drop q)) := ⟨gr, q, cr - q, by rw [hml], or2, by rw [hml]; omega, by unfold maxLen; omega, HW.out.2.2 q hq1⟩
            have hm0 : 0 < WK.length - q := by omega
            have hl6 : (WK.drop q).length ≤ 6 := by rw [List.length_drop]; omega
            clear hring hRG
            go_wp2_with fail
            all_goals
              refine (l4Least_any bf _ _ ys ((WK.drop q)) _ hy2 hL (fun q' hq' => by have := (HR.out.2.2.1 q' (by rw [HRG.out]; exact hq')).1; rw [HY.out.1]; exact this) hl6).mono ?_
              rintro e w3 ⟨rfl, hb3⟩
              have hy3 := hy2.keep hb3
              have hL3 := hL.keep hb3
              have hO3 := hO2.keep hb3
              have bx3 := bx2.keep hb3
              have hB3 : Below w.heap.size w w3 := hB2.trans (hb3.mono (by omega))
              have hs3 := hb3.size
              obtain ⟨D, hD⟩ : ∃ D, leastP ys ((WK.drop q)) = D := ⟨_, rfl⟩
              rw [hD] at rl1 rl2 ⊢
              have HD := Lib.hid hD
              clear hD hb3
              go_wp2_with fail
              refine (l4Less_any bf D _ _ ys ((WK.drop q)) _ hy3 hL3 (fun q' hq' => by have := (HR.out.2.2.1 q' (by rw [HRG.out]; exact hq')).1; rw [HY.out.1]; exact this) hl6 (by rw [← HRG.out]; exact HR.out.2.1) HY.out.2.1 (by omega) (by rw [HY.out.1]; omega)).mono ?_
              rintro e w4 ⟨r4, rfl, hr4, hb4⟩
              have hlen4 : (lessP D ys ((WK.drop q))).length = ps.length := by rw [less_len]; exact HY.out.1
              obtain ⟨A4, c4, rfl, -, -, -, -⟩ := hr4.form
              rw [hlen4] at hr4 ⊢
              have hL4 := (hL3.keep hb4).keep (w' := w4.alloc (.cells #[.int .i64 D] 3)) (by (repeat (first | (with_reducible assumption) | (with_reducible exact Below.refl _ _) | ((with_reducible refine Below.alloc ?_ ?hsz _); (case hsz => (first | omega | (simp; done) | (simp; omega) | (simp at *; omega)))) | ((with_reducible refine Below.setCell ?_ ?hsz _); (case hsz => (first | omega | (simp; done) | (simp; omega) | (simp at *; omega)))) | (with_reducible refine Below.drew ?_) | (with_reducible refine below_drewN ?_ _) | ((with_reducible refine Below.trans ?_ (Below.mono (by with_reducible assumption) ?hsz)); (case hsz => (first | omega | (simp; done) | (simp; omega) | (simp at *; omega)))))))
              have hO4 := hO3.keep hb4
              have bx4 := bx3.keep hb4
              have hB4 : Below w.heap.size w w4 := hB3.trans (hb4.mono (by omega))
              have hs4 := hb4.size
              have hz4 := hB4.size
              obtain ⟨g9, o9, c9, hv9, -, -, -, hc9⟩ := hL4
              injection hv9 with e1 e2 e3
              injection e1 with e1
              injection e1 with e1 e4
              subst e1
              subst e4
              have hnews := news_lies hc9
              have hownL := World.ownsRow_lit (e := 3) (base := w4.heap.size) (size := 1) w4 #[.int .i64 D] 1 (Nat.le_refl _) (by simp [maxLen]) rfl
              obtain ⟨vs, v1, v2, v3, v4⟩ := hO4
              have hN := HY.out.2.2.2.2.2.1
              have hg1 := (v2.lt g rfl).1
              rw [← hN] at v2 v3
              have hLf := HY.out.2.2.2.2.1
              rw [← hN] at hLf
              have V4 := Lib.hid v4
              have V1 := Lib.hid v1
              have hdl := hml
              clear v4 v1 hN hlen4 hb4 hc9 e2 e3
              go_wp2_with (first
                | (at_builtin
                   (refine wpList_append_lies _ rfl _ _ 30 rfl w4.heap.size 3 i0 _ 1 8 Tryz.underlying30 hi0' hz0 hz1' hz2' rfl (by omega) (.slice (some ⟨w4.heap.size, 0, none⟩) 1 1) 1 [.int .i64 D] rfl hownL ⟨gr, q, none⟩ (WK.length - q) (cr - q) ((natsI ((WK.drop q))).map (Value.int .i64)) rfl (by rw [List.length_map, Nat.mul_one]; exact hdl) hnews (by intro u' hu'; obtain ⟨y', -, rfl⟩ := List.mem_map.1 hu'; rfl) hm0 (by unfold maxLen; omega) (by omega) (by simp) _ rfl ?_)
                   intro g5 k5 w5 hown5 hgr5 hat5 hlt5
                   have hB5 : Below w4.heap.size w4 w5 := Below.grown (w := w4.alloc (.cells #[.int .i64 D] 3)) (by (repeat (first | (with_reducible assumption) | (with_reducible exact Below.refl _ _) | ((with_reducible refine Below.alloc ?_ ?hsz _); (case hsz => (first | omega | (simp; done) | (simp; omega) | (simp at *; omega)))) | ((with_reducible refine Below.setCell ?_ ?hsz _); (case hsz => (first | omega | (simp; done) | (simp; omega) | (simp at *; omega)))) | (with_reducible refine Below.drew ?_) | (with_reducible refine below_drewN ?_ _) | ((with_reducible refine Below.trans ?_ (Below.mono (by with_reducible assumption) ?hsz)); (case hsz => (first | omega | (simp; done) | (simp; omega) | (simp at *; omega))))))) hgr5 (by (first | omega | (simp; done) | (simp; omega) | (simp at *; omega))) (fun q hq => by have hq' : w4.heap.size = q := (by injection hq); omega)
                   have hs5 := hB5.size
                   have hO5 := (own_keep v2 (Nat.le_refl _) hB5).alloc (.cells #[.slice (some ⟨g5, 0, none⟩) (1 + (WK.length - q)) k5] 30))
                | (at_builtin
                   (refine wpList_append_lies _ rfl _ _ 28 rfl (w.heap.size + 1) 30 iS _ 1 24 Tryz.underlying28 hiS hS0 hS1 hS2 rfl (by omega) (.slice (some ⟨g, 0, none⟩) N cap) N vs rfl hO5 ⟨w5.heap.size, 0, none⟩ 1 1 [.slice (some ⟨g5, 0, none⟩) (1 + (WK.length - q)) k5] rfl rfl (World.news_of_block (cs := #[.slice (some ⟨g5, 0, none⟩) (1 + (WK.length - q)) k5]) (t := 30) (fr := (0, 0)) (heap_alloc_new _ _)) (by simp [Value.oneCell']) (by omega) (by unfold maxLen; omega) (by omega) (by simp; omega) _ rfl ?_)
                   intro g6 k6 w6 hown6 hgr6 hat6 hlt6))
              have hI5 : Ints w5 w4.heap.size (.slice (some ⟨g5, 0, none⟩) (1 + (WK.length - q)) k5) (D :: natsI ((WK.drop q))) := ⟨by rw [show (D :: natsI ((WK.drop q))).length = 1 + (WK.length - q) by rw [List.length_cons, hdl]; omega]; exact hown5, by rw [List.length_cons, hdl]; unfold small; omega⟩
              have hI5' := (hI5.mono (b' := w.heap.size + 1) (by omega)).alloc1 (.cells #[.slice (some ⟨g5, 0, none⟩) (1 + (WK.length - q)) k5] 30)
              have hr6 := ((hr4.keep hB5).alloc1 (.cells #[.slice (some ⟨g5, 0, none⟩) (1 + (WK.length - q)) k5] 30)).other hO5 hgr6
              have hN := HY.out.2.2.2.2.2.1
              have hO6 : OwnRows w6 (w.heap.size + 1) g6 k6 (Ls ++ [D :: natsI ((WK.drop q))]) := rows_snoc V1.out (by rw [← hN]; exact hO5) (fun k hk hk' => ((V4.out k hk hk').keep hB5).alloc1 _) hI5' (by unfold small; omega) hgr6 (by rw [← hN]; exact hown6)
              have bx6 := ((bx4.keep hB5).keep (w' := w5.alloc (.cells #[.slice (some ⟨g5, 0, none⟩) (1 + (WK.length - q)) k5] 30)) (by (repeat (first | (with_reducible assumption) | (with_reducible exact Below.refl _ _) | ((with_reducible refine Below.alloc ?_ ?hsz _); (case hsz => (first | omega | (simp; done) | (simp; omega) | (simp at *; omega)))) | ((with_reducible refine Below.setCell ?_ ?hsz _); (case hsz => (first | omega | (simp; done) | (simp; omega) | (simp at *; omega)))) | (with_reducible refine Below.drew ?_) | (with_reducible refine below_drewN ?_ _) | ((with_reducible refine Below.trans ?_ (Below.mono (by with_reducible assumption) ?hsz)); (case hsz => (first | omega | (simp; done) | (simp; omega) | (simp at *; omega)))))))).grown hgr6 (by intro hh; have hh2 : w.heap.size = g := (by injection hh); omega)
              have hB6 : Below w.heap.size w w6 := Below.grown (w := w5.alloc (.cells #[.slice (some ⟨g5, 0, none⟩) (1 + (WK.length - q)) k5] 30)) (Below.alloc (hB4.trans (hB5.mono (by omega))) (by omega) _) hgr6 (by simp; omega) (fun q hq => by have hq' : g = q := (by injection hq); omega)
              have hpf := HY.out.2.2.2.1
              have hfin : (Ls ++ [D :: natsI ((WK.drop q))]) ++ ringsP ps (f - 1) (lessP D ys ((WK.drop q))) = ringsL ps xs := by
                have hpk := HR.out.2.2.2.2.2.2
                rw [← HY.out.2.2.2.2.2.2, show f = (f - 1) + 1 by omega, rings_on HR.out.2.2.2.2.2.1, HRG.out, HD.out, List.append_assoc]
                simp
              have hp6 : posN (lessP D ys ((WK.drop q))) ≤ f - 1 := by
                have h4 := HR.out.2.2.2.2.1
                rw [HRG.out, HD.out] at h4
                omega
              have hb6 : ∀ i, 0 ≤ (lessP D ys ((WK.drop q))).getD i 0 ∧ (lessP D ys ((WK.drop q))).getD i 0 ≤ 40 := by
                intro i
                have h3 := HR.out.2.2.2.1 i
                rw [HRG.out, HD.out] at h3
                have := HY.out.2.1 i
                omega
              have hz6 : ∀ i, i < k → (lessP D ys ((WK.drop q))).getD i 0 = 0 := by
                intro i hi
                have h3 := HR.out.2.2.2.1 i
                rw [HRG.out, HD.out] at h3
                have := HY.out.2.2.1 i hi
                omega
              have hf1 : 1 ≤ f := by have := HR.out.2.2.2.2.2.2; omega
              clear hown5 hgr5 hat5 hown6 hgr6 hat6
              go_roundw
              case rel => exact ⟨f - 1, g6, k6, Ls ++ [D :: natsI ((WK.drop q))], N + 1, lessP D ys ((WK.drop q)), _, _, rfl, hr6, by rw [less_len]; exact HY.out.1, hb6, hz6, hp6, by rw [List.length_append, ← hN]; simp; omega, by rw [List.length_append, ← hN]; rfl, rfl, hO6, hfin, bx6, hB6⟩
              case measure => simp [sliceLen]; omega
        · have hyd : decide (0 < y0) = false := decide_eq_false hy0
          have hz1 : ∀ i, i < k + 1 → ys.getD i 0 = 0 := by
            intro i hi
            rcases Nat.lt_succ_iff_lt_or_eq.1 hi with h | h
            · exact HY.out.2.2.1 i h
            · subst h
              have := HY.out.2.1 i
              have h2 := HC.out
              omega
          have HZ := Lib.hid hz1
          clear hz1 hy0
          go_wp2
          go_roundw
          case rel => exact ⟨k + 1, f, g, cap, Ls, N, ys, bf, _, by omega, by go_num, rfl, hy, HY.out.1, HY.out.2.1, HZ.out, HY.out.2.2.2.1, HY.out.2.2.2.2.1, HY.out.2.2.2.2.2.1, rfl, hO, HY.out.2.2.2.2.2.2, bx, hB⟩
          case measure => first | (simp [intOf]; done) | (simp [intOf]; omega)
    · have hfin : Ls = ringsL ps xs := by
        rw [← HY.out.2.2.2.2.2.2, rings_nil (fun i hi => HY.out.2.2.1 i (by omega)), List.append_nil]
      have hN := HY.out.2.2.2.2.2.1
      subst hN
      subst hfin
      go_wp2
      go_ret
      obtain ⟨vs, v1, v2, v3, v4⟩ := hO
      exact ⟨g, cap, rfl, ⟨vs, v1, own_mono v2 (by omega), v3, fun k hk hk' => (v4 k hk hk').mono (by omega)⟩, hB⟩

end Go.Proofs.YtmgpekdhcghabaaGreat
