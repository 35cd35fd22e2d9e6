/- Plain facts. -/
import Derived.Test.YtobbeofibkpbaaaGZ27
import Derived.Test.YtobbeofibkpbaaaGZ32
import Derived.Test.YtobbeofibkpbaaaGZ36
/- Contracts of the functions of chapter 4 in the program: the rings of a flow. -/
namespace Go.Proofs.Ytobbeofibkpbaaa
open Go.RowKit

/-- no two of these rows share memory -/
def Apart (vs : List Value) : Prop := ∀ i j, (h : i < j) → (hj : j < vs.length) → (vs[i]'(by omega)).ownBlock = none ∨ (vs[i]'(by omega)).ownBlock ≠ vs[j].ownBlock
theorem Apart.snoc {vs : List Value} {row : Value} {B : Nat} (h : Apart vs) (h1 : ∀ i (h : i < vs.length) q, vs[i].ownBlock = some q → q < B) (h2 : ∀ q, row.ownBlock = some q → B ≤ q) : Apart (vs ++ [row]) := by
  intro i j hij hj
  have hi : i < vs.length := by simp at hj; omega
  have ei : (vs ++ [row])[i]'(by simp; omega) = vs[i] := List.getElem_append_left hi
  rw [ei]
  by_cases hlt : j < vs.length
  · have ej : (vs ++ [row])[j] = vs[j] := List.getElem_append_left hlt
    rw [ej]
    exact h i j hij hlt
  · have hjl : j = vs.length := by simp at hj; omega
    subst hjl
    have ej : (vs ++ [row])[vs.length] = row := by simp
    rw [ej]
    cases hv : vs[i].ownBlock with
    | none => exact .inl rfl
    | some k =>
      refine .inr fun he => ?_
      have a1 := h1 i hi k hv
      have a2 := h2 k he.symm
      omega

def OwnRowsV (w : World) (b : Nat) (v : Value) (Ls : List (List Int)) : Prop :=
  ∃ vs : List Value, vs.length = Ls.length ∧ w.ownsRow b 28 1 v Ls.length vs ∧ Ls.length ≤ small ∧ (∀ k (h : k < Ls.length) (h' : k < vs.length), Ints w b vs[k] Ls[k]) ∧ Apart vs
theorem OwnRowsV.keep {w w' : World} {b : Nat} {v : Value} {Ls : List (List Int)} (h : OwnRowsV w b v Ls) (hb : Below w.heap.size w w') : OwnRowsV w' b v Ls := by
  obtain ⟨vs, h1, h2, h3, h4, h5⟩ := h
  exact ⟨vs, h1, own_keep h2 (Nat.le_refl _) hb, h3, fun k hk hk' => (h4 k hk hk').keep hb, h5⟩
theorem OwnRowsV.none_ (w : World) (b : Nat) : OwnRowsV w b (.slice none 0 0) [] := ⟨[], rfl, World.ownsRow_nil _ _ _ 1, by simp [small], fun k hk => absurd hk (by simp), fun i j _ hj => absurd hj (by simp)⟩
theorem Ints.otherV {w w' : World} {b b2 N : Nat} {v v2 : Value} {xs : List Int} {vs : List Value} (h : Ints w b v xs) (ho : w.ownsRow b2 28 1 v2 N vs) (hg : w.grownBy w' v2.ownBlock) : Ints w' b v xs := by
  rcases ho.2 with ⟨h2, hn⟩ | ⟨g, cap, cur, h2, r⟩
  · subst h2
    refine ⟨h.1.kept hg ?_, h.2⟩
    by_cases hv : v.ownBlock = none
    · exact .inl hv
    · exact .inr hv
  · subst h2
    exact h.other ho hg
theorem rows_snocV {w w6 : World} {b g6 k6 : Nat} {v2 : Value} {Ls : List (List Int)} {L : List Int} {row : Value} {vs : List Value} (h1 : vs.length = Ls.length) (h2 : w.ownsRow b 28 1 v2 Ls.length vs)
    (h4 : ∀ k (h : k < Ls.length) (h' : k < vs.length), Ints w b vs[k] Ls[k]) (hr : Ints w b row L) (hap : Apart (vs ++ [row])) (hs : Ls.length + 1 ≤ small) (hg : w.grownBy w6 v2.ownBlock)
    (ho : w6.ownsRow b 28 1 (.slice (some ⟨g6, 0, none⟩) (Ls.length + 1) k6) (Ls.length + 1) (vs ++ [row])) : OwnRowsV w6 b (.slice (some ⟨g6, 0, none⟩) (Ls.length + 1) k6) (Ls ++ [L]) := by
  have hl : (Ls ++ [L]).length = Ls.length + 1 := by simp
  refine ⟨vs ++ [row], by simp [h1], by rw [hl]; exact ho, by rw [hl]; exact hs, fun k hk hk' => ?_, hap⟩
  by_cases hlt : k < Ls.length
  · have e1 : (vs ++ [row])[k] = vs[k]'(by omega) := List.getElem_append_left (by omega)
    have e2 : (Ls ++ [L])[k] = Ls[k] := List.getElem_append_left hlt
    rw [e1, e2]
    exact (h4 k hlt (by omega)).otherV h2 hg
  · have hkl : k = Ls.length := by omega
    subst hkl
    have e1 : (vs ++ [row])[Ls.length] = row := by simp [← h1]
    have e2 : (Ls ++ [L])[Ls.length] = L := by simp
    rw [e1, e2]
    exact hr.otherV h2 hg

set_option maxHeartbeats 400000 in
set_option maxRecDepth 20000 in
theorem posFn_any (x : Int) (w : World) : Calls Try.prog 176 #[.int .i64 x] w fun e w' => e = .returned (.bool (decide (0 < x))) ∧ w = w' := by
  go_enter Try.func176, Try.ntmps176
  go_wp2
  go_ret
  exact ⟨rfl, rfl⟩

set_option maxHeartbeats 1000000 in
set_option maxRecDepth 20000 in
theorem indexPos_any (u : Value) (xs : List Int) (b : Nat) (w : World) (hx : Ints w b u xs) :
    Calls Try.prog 121 #[u, .func (Fn.func 176) #[] #[]] w fun e w' => ∃ r : Int, e = .returned (.int .i64 r) ∧ ((r = -1 ∧ firstP xs = none) ∨ ∃ q : Nat, r = (q : Int) ∧ firstP xs = some q) ∧ Below w.heap.size w w' := by
  obtain ⟨A0, c0, rfl, hc1, hc2, hs, hcell⟩ := hx.form
  unfold maxLen at hc2
  go_enter Try.func121, Try.ntmps121
  go_wp2
  go_loopw [8] (fun i wr => ∃ k : Nat, k ≤ xs.length ∧ i = .int .i64 k ∧ (∀ i, i < k → decide (0 < xs.getD i 0) = false) ∧ Below w.heap.size w wr) (fun i _ => xs.length - (intOf i).toNat)
  case atStart => exact ⟨0, by omega, rfl, fun i hi => absurd hi (by omega), Below.refl _ _⟩
  case round =>
    obtain ⟨k, hk, rfl, hall, hb⟩ := hrel
    have Hall := Lib.hid hall
    clear hall
    have hzb := hb.size
    by_cases hlt : k < xs.length
    · obtain ⟨g, rfl, hg1, hg2, cx, -⟩ := hcell wr hb k hlt
      have HG := Lib.hid (getD_at hlt)
      generalize xs[k] = y at *
      by_cases hy : 0 < y
      · have hyd : decide (0 < y) = true := decide_eq_true hy
        have Hf : Hid (firstP xs = some k) := Lib.hid (range_find.2 ⟨hlt, by rw [HG.out]; exact hyd, Hall.out⟩)
        clear hy
        go_wp2_with fail
        refine (posFn_any y _).mono ?_
        rintro e w1 ⟨rfl, rfl⟩
        rw [hyd]
        go_wp2
        go_ret
        exact ⟨_, rfl, .inr ⟨k, rfl, Hf.out⟩, by (repeat (first | (with_reducible assumption) | (with_reducible exact Below.refl _ _) | ((with_reducible refine Below.alloc ?_ ?hsz _); (case hsz => (first | omega | (simp; done) | (simp; omega) | (simp at *; omega)))) | ((with_reducible refine Below.setCell ?_ ?hsz _); (case hsz => (first | omega | (simp; done) | (simp; omega) | (simp at *; omega)))) | (with_reducible refine Below.drew ?_) | (with_reducible refine below_drewN ?_ _) | ((with_reducible refine Below.trans ?_ (Below.mono (by with_reducible assumption) ?hsz)); (case hsz => (first | omega | (simp; done) | (simp; omega) | (simp at *; omega))))))⟩
      · have hyd : decide (0 < y) = false := decide_eq_false hy
        have Hn := Lib.hid (show ∀ i, i < k + 1 → decide (0 < xs.getD i 0) = false by
          intro i hi
          rcases Nat.lt_succ_iff_lt_or_eq.1 hi with h | h
          · exact Hall.out i h
          · subst h; rw [HG.out]; exact hyd)
        clear hy
        go_wp2_with fail
        refine (posFn_any y _).mono ?_
        rintro e w1 ⟨rfl, rfl⟩
        rw [hyd]
        go_wp2
        go_roundw
        case rel => exact ⟨k + 1, by omega, by go_num, Hn.out, by (repeat (first | (with_reducible assumption) | (with_reducible exact Below.refl _ _) | ((with_reducible refine Below.alloc ?_ ?hsz _); (case hsz => (first | omega | (simp; done) | (simp; omega) | (simp at *; omega)))) | ((with_reducible refine Below.setCell ?_ ?hsz _); (case hsz => (first | omega | (simp; done) | (simp; omega) | (simp at *; omega)))) | (with_reducible refine Below.drew ?_) | (with_reducible refine below_drewN ?_ _) | ((with_reducible refine Below.trans ?_ (Below.mono (by with_reducible assumption) ?hsz)); (case hsz => (first | omega | (simp; done) | (simp; omega) | (simp at *; omega))))))⟩
        case measure => first | (simp [intOf]; done) | (simp [intOf]; omega)
    · have Hf : Hid (firstP xs = none) := Lib.hid (range_none.2 fun i hi => Hall.out i (by omega))
      go_wp2
      go_ret
      exact ⟨_, rfl, .inl ⟨rfl, Hf.out⟩, hb⟩

end Go.Proofs.Ytobbeofibkpbaaa

/- Contracts of the functions of chapter 4 in the program: RingsOf. -/
namespace Go.Proofs.Ytobbeofibkpbaaa
open Go.RowKit

theorem Lies.far {w w' : World} {v : Value} {L : List Int} {row : Option Nat} (h : Lies w v L) (hg : w.grownBy w' row) (hne : ∀ q, v.ownBlock = some q → some q ≠ row) : Lies w' v L := by
  obtain ⟨g, o, c, h1, h2, h3, h4, h5⟩ := h
  exact ⟨g, o, c, h1, Nat.lt_of_lt_of_le h2 hg.size, h3, h4, fun j hj => (hg.cell_far ⟨g, o + j, none⟩ h2 (hne g (by rw [h1]; rfl))).trans (h5 j hj)⟩
theorem rings_none {ps : List Pp} {xs : List Int} {f : Nat} (h : firstP xs = none) : ringsP ps f xs = [] := by
  cases f with
  | zero => rfl
  | succ f => rw [ringsP, h]

set_option maxHeartbeats 4000000 in
set_option maxRecDepth 20000 in
theorem ringsOf_any (n : Int) (v u : Value) (ps : List Pp) (xs : List Int) (b b' : Nat) (w : World) (hp : Pipes w b v ps) (hx : Ints w b' u xs) (hbal : balB n ps xs = true) :
    Calls Try.prog 154 #[v, u] w fun e w' => ∃ (A : Option Addr) (k5 : Nat), e = .returned (.slice A (ringsL ps xs).length k5) ∧ OwnRowsV w' w.heap.size (.slice A (ringsL ps xs).length k5) (ringsL ps xs) ∧ Below w.heap.size w w' := by
  have hp0 := hp
  have hx0 := hx
  obtain ⟨A, c, rfl, hcp1, hcp2, hsp, -⟩ := hp.form
  obtain ⟨A0, c0, rfl, hc1, hc2, hsm, -⟩ := hx.form
  unfold maxLen at hc2 hcp2
  obtain ⟨hok, hlen, -⟩ := flowOk_parts (bal_flow hbal)
  obtain ⟨n2, n5, hl7, hpo⟩ := netOk_parts hok
  obtain ⟨iS, hiS, hS0, hS1, hS2⟩ := info_parts ints_info
  have hpos : posN xs ≤ 8 := by have := pos_le (xs := xs); omega
  have HP := Lib.hid (And.intro hok hpo)
  have HB := Lib.hid hbal
  clear hok hpo hlen hbal
  go_enter Try.func154, Try.ntmps154
  go_wp2
  go_loopw [1, 5] (fun t1 t5 wr => ∃ (f N k5 : Nat) (A5 : Option Addr) (Ls : List (List Int)) (ys : List Int) (bf : Nat) (fl : Value), t1 = fl ∧ Ints wr bf fl ys ∧ balB n ps ys = true ∧ posN ys ≤ f ∧ Ls.length + f ≤ 8 ∧ N = Ls.length ∧ t5 = .slice A5 N k5 ∧ OwnRowsV wr w.heap.size (.slice A5 N k5) Ls ∧ Ls ++ ringsP ps f ys = ringsL ps xs ∧ Below w.heap.size w wr) (fun _ t5 _ => 9 - sliceLen t5)
  case atStart => exact ⟨8, 0, 0, none, [], xs, b', _, rfl, hx0, HB.out, hpos, by simp, rfl, rfl, OwnRowsV.none_ _ _, rfl, Below.refl _ _⟩
  case round =>
    clear hpos hx0 hx hc1 hsm
    obtain ⟨f, N, k5, A5, Ls, ys, bf, fl, rfl, hy, hbal, hpf, hLf, hN, rfl, hO, hcat, hB⟩ := hrel
    obtain ⟨AY, cY, rfl, hcy1, hcy2, -, -⟩ := hy.form
    unfold maxLen at hcy2
    have hfl := bal_flow hbal
    have hyl := (flowOk_parts hfl).2.1
    have hyb := flow_getD hfl
    have HY := Lib.hid (And.intro hbal (And.intro hpf (And.intro hLf (And.intro hN (And.intro hcat (And.intro hyl hyb))))))
    rw [hyl] at hcy1 hy ⊢
    have hzb := hB.size
    clear hbal hpf hLf hN hcat hfl hyl hyb
    go_wp2_with fail
    with_reducible refine (indexPos_any _ ys bf _ hy).mono ?_
    rintro e w1 ⟨r, rfl, hr, hb1⟩
    have hy1 := hy.keep hb1
    have hO1 := hO.keep hb1
    have hB1 : Below w.heap.size w w1 := hB.trans (hb1.mono hzb)
    have hs1 := hb1.size
    clear hb1 hy hO
    rcases hr with ⟨rfl, hf⟩ | ⟨k, rfl, hf⟩
    · have hfin : Ls = ringsL ps xs := by
        rw [← HY.out.2.2.2.2.1, rings_none hf, List.append_nil]
      have hN := HY.out.2.2.2.1
      subst hN
      subst hfin
      go_wp2
      go_ret
      exact ⟨A5, k5, rfl, hO1, hB1⟩
    · obtain ⟨hk1, hk2, -⟩ := range_find.1 hf
      have hkx : 0 < ys.getD k 0 := of_decide_eq_true hk2
      have hkp : k < ps.length := by have := HY.out.2.2.2.2.2.1; omega
      have e : ps.getD k zeroPp = ps[k] := by simp [List.getD_eq_getElem?_getD, hkp]
      obtain ⟨f0, f1, -⟩ := pipeOk_parts (HP.out.2 _ (List.getElem_mem hkp))
      obtain ⟨hend, hne, hnd, hop⟩ := ring_parts (n := n) (ps := ps) (xs := ys) (k := k) (fun p hp => by obtain ⟨p0, p1, p2, p3, -⟩ := pipeOk_parts (HP.out.2 p hp); exact ⟨p0, p1, p2, p3⟩) n5 hkp hkx
      have hr6 : (ringP ps ys k).length ≤ 6 := by
        unfold ringP
        rw [List.length_drop]
        have := hend.2.2.2
        omega
      obtain ⟨rl1, rl2, rl3, rl4⟩ := ring_less (ps := ps) (xs := ys) HY.out.2.2.2.2.2.1 HY.out.2.2.2.2.2.2 hne hnd hop
      have hbl := bal_less HY.out.1 hkp hkx
      have hpk := pos_some hk1 hkx
      have hcomes := bal_comes HY.out.1 hkp hkx
      have hring : ringP ps ys k = (walkP ps ys ps[k].fr (-1)).1.drop (walkP ps ys ps[k].fr (-1)).2.toNat := by rw [ringP, e]
      rw [e] at hcomes
      have hl1 := List.length_pos_iff.2 hne
      obtain ⟨RG, hRG⟩ : ∃ RG, ringP ps ys k = RG := ⟨_, rfl⟩
      rw [hRG] at hne hnd hop hr6 rl1 rl2 rl3 rl4 hbl hring hl1
      have HRG := Lib.hid hRG
      have HR := Lib.hid (And.intro hnd (And.intro hop (And.intro rl4 (And.intro hbl (And.intro hf (And.intro hpk hcomes))))))
      obtain ⟨gp, rfl, gp1, gp2, cf, -⟩ := hp0.cellAt hB1 k hkp
      have hgpw := Nat.lt_of_lt_of_le gp2 hB1.size
      clear e hne hnd hop rl3 rl4 hbl hf hpk hcomes hRG hend hk2 hkx
      generalize ps[k].fr = fr0 at *
      have hnx : ∀ v, (v = fr0 ∨ ∃ k, k < ps.length ∧ (ps.getD k zeroPp).to = v ∧ 0 < ys.getD k 0) → v ≠ -1 → ∃ q, nextP ps ys v = some q := fun v hv _ => HR.out.2.2.2.2.2.2 v hv
      have HNX := Lib.hid hnx
      clear hnx
      go_wp2_with fail
      with_reducible refine (partFrom_any n fr0 (-1) _ _ ps ys b bf _ (hp0.keep hB1) hy1 HY.out.2.2.2.2.2.1 HP.out.1 f0 f1 (by omega) HNX.out).mono ?_
      rintro e w2 ⟨r7, rfl, hL, hown7, hb2⟩
      rw [← hring] at hL
      have hy2 := hy1.keep hb2
      have hO2 := hO1.keep hb2
      have hB2 : Below w.heap.size w w2 := hB1.trans (hb2.mono hB1.size)
      have hs2 := hb2.size
      obtain ⟨vs1, -, u2, -, -⟩ := id hO1
      have hlow : ∀ q, (Value.slice A5 N k5).ownBlock = some q → w.heap.size ≤ q ∧ q < w1.heap.size := fun q hq => u2.lt q hq
      have HLW := Lib.hid hlow
      have hml : (natsI RG).length = RG.length := by simp
      clear hb2 hy1 hO1 cf hring u2 hlow
      obtain ⟨g7, o7, c7, rfl, -⟩ := id hL
      rw [hml] at hL hown7 ⊢
      go_wp2_with fail
      with_reducible refine (leastIn_any _ _ RG ys bf _ hy2 hL (fun q hq => by have := (HR.out.2.1 q hq).1; rw [HY.out.2.2.2.2.2.1]; exact this) hr6).mono ?_
      rintro e w3 ⟨rfl, hb3⟩
      have hy3 := hy2.keep hb3
      have hO3 := hO2.keep hb3
      have hL3 := hL.keep hb3
      have hB3 : Below w.heap.size w w3 := hB2.trans (hb3.mono hB2.size)
      have hs3 := hb3.size
      obtain ⟨D, hD⟩ : ∃ D, leastP ys RG = D := ⟨_, rfl⟩
      rw [hD] at rl1 rl2 ⊢
      have HD := Lib.hid hD
      clear hb3 hy2 hO2 hL hD
      go_wp2_with fail
      with_reducible refine (partRow_any D _ (natsI RG) _ hL3 (by rw [hml]; exact Nat.succ_le_of_lt hl1) (by rw [hml]; exact hr6)).mono ?_
      rintro e w4 ⟨rP, rfl, hI4, hb4⟩
      have hy4 := hy3.keep hb4
      have hL4 := hL3.keep hb4
      have hB4 : Below w.heap.size w w4 := hB3.trans (hb4.mono hB3.size)
      have hs4 := hb4.size
      have hz3 := hB3.size
      obtain ⟨vs, v1, v2, v3, v4, v5⟩ := id hO3
      have VAP := Lib.hid (v5.snoc (B := w3.heap.size) (fun i h q hq => ((v4 i (by omega) h).1.lt q hq).2) (fun q hq => (hI4.1.lt q hq).1))
      replace v2 := own_keep v2 (Nat.le_refl _) hb4
      replace v4 : ∀ k (h : k < Ls.length) (h' : k < vs.length), Ints w4 w.heap.size vs[k] Ls[k] := fun k hk hk' => (v4 k hk hk').keep hb4
      clear v5
      obtain ⟨A6, c6, rfl, -, -, -, -⟩ := hI4.form
      obtain ⟨M6, hM6⟩ : ∃ M6, (D :: natsI RG).length = M6 := ⟨_, rfl⟩
      rw [hM6] at hI4 VAP ⊢
      clear hM6 hb4 hy3 hO3 hL3
      have hN := HY.out.2.2.2.1
      have hLf := HY.out.2.2.1
      rw [← hN] at v2 v3 hLf
      have V4 := Lib.hid v4
      have V1 := Lib.hid v1
      have hrow : ∀ q', (Value.slice A5 N k5).ownBlock = some q' → w.heap.size ≤ q' := fun q' hq => (v2.lt q' hq).1
      clear v4 v1 hN
      go_wp2_with (first
        | (at_builtin
           go_must (refine wpList_append_lies _ rfl _ _ 62 rfl w.heap.size 28 iS _ 1 24 Try.underlying62 hiS hS0 hS1 hS2 rfl (by omega) (.slice A5 N k5) N vs rfl (v2.alloc _) ⟨w4.heap.size, 0, none⟩ 1 1 [.slice A6 M6 c6] rfl rfl (World.news_of_block (cs := #[.slice A6 M6 c6]) (t := 28) (fr := (0, 0)) (heap_alloc_new _ _)) (by simp [Value.oneCell']) (by omega) (by unfold maxLen; omega) (by omega) (by simp; omega) _ rfl ?_)
           intro g5 k6 w5 hown5 hgr5 hat5 hlt5))
      have v2a := v2.alloc (.cells #[.slice A6 M6 c6] 28)
      have hB5 : Below w.heap.size w4 w5 := Below.grown (w := w4.alloc (.cells #[.slice A6 M6 c6] 28)) (by (repeat (first | (with_reducible assumption) | (with_reducible exact Below.refl _ _) | ((with_reducible refine Below.alloc ?_ ?hsz _); (case hsz => (first | omega | (simp; done) | (simp; omega) | (simp at *; omega)))) | ((with_reducible refine Below.setCell ?_ ?hsz _); (case hsz => (first | omega | (simp; done) | (simp; omega) | (simp at *; omega)))) | (with_reducible refine Below.drew ?_) | (with_reducible refine below_drewN ?_ _) | ((with_reducible refine Below.trans ?_ (Below.mono (by with_reducible assumption) ?hsz)); (case hsz => (first | omega | (simp; done) | (simp; omega) | (simp at *; omega))))))) hgr5 (by (first | omega | (simp; done) | (simp; omega) | (simp at *; omega))) hrow
      have hBw5 : Below w.heap.size w w5 := hB4.trans hB5
      have hy5 := (hy4.alloc1 (.cells #[.slice A6 M6 c6] 28)).otherV v2a hgr5
      have hI5' := (hI4.mono (b' := w.heap.size) (by omega)).alloc1 (.cells #[.slice A6 M6 c6] 28)
      have hN := HY.out.2.2.2.1
      have hO5 : OwnRowsV w5 w.heap.size (.slice (some ⟨g5, 0, none⟩) (Ls.length + 1) k6) (Ls ++ [D :: natsI RG]) := rows_snocV V1.out (by rw [← hN]; exact v2a) (fun k hk hk' => (V4.out k hk hk').alloc1 _) hI5' VAP.out (by unfold small; omega) hgr5 (by rw [← hN]; exact hown5)
      have hL5 := (hL4.keep (w' := w4.alloc (.cells #[.slice A6 M6 c6] 28)) (by (repeat (first | (with_reducible assumption) | (with_reducible exact Below.refl _ _) | ((with_reducible refine Below.alloc ?_ ?hsz _); (case hsz => (first | omega | (simp; done) | (simp; omega) | (simp at *; omega)))) | ((with_reducible refine Below.setCell ?_ ?hsz _); (case hsz => (first | omega | (simp; done) | (simp; omega) | (simp at *; omega)))) | (with_reducible refine Below.drew ?_) | (with_reducible refine below_drewN ?_ _) | ((with_reducible refine Below.trans ?_ (Below.mono (by with_reducible assumption) ?hsz)); (case hsz => (first | omega | (simp; done) | (simp; omega) | (simp at *; omega)))))))).far hgr5 (fun q hq e => by have h1 := hown7 q hq; have h2 := (HLW.out q e.symm).2; omega)
      rw [← hN] at hO5
      clear hown5 hgr5 hat5 v2a hI5' hL4 hI4 hy4 hN
      go_wp2_with fail
      with_reducible refine (takenOut_any D _ _ RG ys bf _ hy5 hL5 (fun q hq => by have := (HR.out.2.1 q hq).1; rw [HY.out.2.2.2.2.2.1]; exact this) hr6 HR.out.1 HY.out.2.2.2.2.2.2 (by omega) (by rw [HY.out.2.2.2.2.2.1]; omega)).mono ?_
      rintro e w6 ⟨r8, rfl, hr8, hb6⟩
      have hO6 := hO5.keep hb6
      have hBw6 : Below w.heap.size w w6 := hBw5.trans (hb6.mono hBw5.size)
      have hN := HY.out.2.2.2.1
      have hpf := HY.out.2.1
      have hpk := HR.out.2.2.2.2.2.1
      have hfin : (Ls ++ [D :: natsI RG]) ++ ringsP ps (f - 1) (lessP D ys RG) = ringsL ps xs := by
        rw [← HY.out.2.2.2.2.1, show f = (f - 1) + 1 by omega, rings_on HR.out.2.2.2.2.1, HRG.out, HD.out, List.append_assoc]
        simp
      have hp6 : posN (lessP D ys RG) ≤ f - 1 := by
        have h4 := HR.out.2.2.1
        rw [HD.out] at h4
        omega
      have hb7 : balB n ps (lessP D ys RG) = true := by
        have h4 := HR.out.2.2.2.1
        rw [HD.out] at h4
        exact h4
      have HNN := Lib.hid hN
      clear hO5 hb6 hN
      go_wp2
      go_roundw
      case rel => exact ⟨f - 1, N + 1, k6, some ⟨g5, 0, none⟩, Ls ++ [D :: natsI RG], lessP D ys RG, _, _, rfl, hr8, hb7, hp6, by have hN := HNN.out; rw [List.length_append, ← hN]; simp; omega, by rw [List.length_append, ← HNN.out]; rfl, rfl, hO6, hfin, hBw6⟩
      case measure => simp [sliceLen]; omega

end Go.Proofs.Ytobbeofibkpbaaa
