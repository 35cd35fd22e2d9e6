/- Plain facts. -/
import Derived.Test.YtmgpekdhcghabaaGreatGR10
import Derived.Test.YtmgpekdhcghabaaGreatGR18
import Derived.Test.YtmgpekdhcghabaaGreatV4
import Derived.Deep.AppendLies
import Derived.Test.YtmgpekdhcghabaaGreatGR2
/- Contracts of the functions of chapter 4 in the program: RingsOf. -/
namespace Go.Proofs.YtmgpekdhcghabaaGreat
open Go.RowKit

theorem Lies.far {w w' : World} {v : Value} {L : List Int} {row : Option Nat} (h : Lies w v L) (hg : w.grownBy w' row) (hne : ∀ q, v.ownBlock = some q → some q ≠ row) : Lies w' v L := by
  obtain ⟨g, o, c, h1, h2, h3, h4, h5⟩ := h
  exact ⟨g, o, c, h1, Nat.lt_of_lt_of_le h2 hg.size, h3, h4, fun j hj => (hg.cell_far ⟨g, o + j, none⟩ h2 (hne g (by rw [h1]; rfl))).trans (h5 j hj)⟩
theorem rings_none {ps : List Pp} {xs : List Int} {f : Nat} (h : firstP xs = none) : ringsP ps f xs = [] := by
  cases f with
  | zero => rfl
  | succ f => rw [ringsP, h]

set_option maxHeartbeats 4000000 in
set_option maxRecDepth 20000 in
theorem ringsOf_any (n : Int) (v u : Value) (ps : List Pp) (xs : List Int) (b b' : Nat) (w : World) (hp : Pipes w b v ps) (hx : Ints w b' u xs) (hbal : balB n ps xs = true) :
    Calls Tryz.prog 68 #[v, u] w fun e w' => ∃ (A : Option Addr) (k5 : Nat), e = .returned (.slice A (ringsL ps xs).length k5) ∧ OwnRowsV w' w.heap.size (.slice A (ringsL ps xs).length k5) (ringsL ps xs) ∧ Below w.heap.size w w' := by
  have hp0 := hp
  have hx0 := hx
  obtain ⟨A, c, rfl, hcp1, hcp2, hsp, -⟩ := hp.form
  obtain ⟨A0, c0, rfl, hc1, hc2, hsm, -⟩ := hx.form
  unfold maxLen at hc2 hcp2
  obtain ⟨hok, hlen, -⟩ := flowOk_parts (bal_flow hbal)
  obtain ⟨n2, n5, hl7, hpo⟩ := netOk_parts hok
  obtain ⟨iS, hiS, hS0, hS1, hS2⟩ := info_parts ints_info
  have hpos : posN xs ≤ 8 := by have := pos_le (xs := xs); omega
  have HP := Lib.hid (And.intro hok hpo)
  have HB := Lib.hid hbal
  clear hok hpo hlen hbal
  go_enter Tryz.func68, Tryz.ntmps68
  go_wp2
  go_loopw [1, 5] (fun t1 t5 wr => ∃ (f N k5 : Nat) (A5 : Option Addr) (Ls : List (List Int)) (ys : List Int) (bf : Nat) (fl : Value), t1 = fl ∧ Ints wr bf fl ys ∧ balB n ps ys = true ∧ posN ys ≤ f ∧ Ls.length + f ≤ 8 ∧ N = Ls.length ∧ t5 = .slice A5 N k5 ∧ OwnRowsV wr w.heap.size (.slice A5 N k5) Ls ∧ Ls ++ ringsP ps f ys = ringsL ps xs ∧ Below w.heap.size w wr) (fun _ t5 _ => 9 - sliceLen t5)
  case atStart => exact ⟨8, 0, 0, none, [], xs, b', _, rfl, hx0, HB.out, hpos, by simp, rfl, rfl, OwnRowsV.none_ _ _, rfl, Below.refl _ _⟩
  case round =>
    clear hpos hx0 hx hc1 hsm
    obtain ⟨f, N, k5, A5, Ls, ys, bf, fl, rfl, hy, hbal, hpf, hLf, hN, rfl, hO, hcat, hB⟩ := hrel
    obtain ⟨AY, cY, rfl, hcy1, hcy2, -, -⟩ := hy.form
    unfold maxLen at hcy2
    have hfl := bal_flow hbal
    have hyl := (flowOk_parts hfl).2.1
    have hyb := flow_getD hfl
    have HY := Lib.hid (And.intro hbal (And.intro hpf (And.intro hLf (And.intro hN (And.intro hcat (And.intro hyl hyb))))))
    rw [hyl] at hcy1 hy ⊢
    have hzb := hB.size
    clear hbal hpf hLf hN hcat hfl hyl hyb
    go_wp2_with fail
    with_reducible refine (indexPos_any _ ys bf _ hy).mono ?_
    rintro e w1 ⟨r, rfl, hr, hb1⟩
    have hy1 := hy.keep hb1
    have hO1 := hO.keep hb1
    have hB1 : Below w.heap.size w w1 := hB.trans (hb1.mono hzb)
    have hs1 := hb1.size
    clear hb1 hy hO
    rcases hr with ⟨rfl, hf⟩ | ⟨k, rfl, hf⟩
    · have hfin : Ls = ringsL ps xs := by
        rw [← HY.out.2.2.2.2.1, rings_none hf, List.append_nil]
      have hN := HY.out.2.2.2.1
      subst hN
      subst hfin
      go_wp2
      go_ret
      exact ⟨A5, k5, rfl, hO1, hB1⟩
    · obtain ⟨hk1, hk2, -⟩ := range_find.1 hf
      have hkx : 0 < ys.getD k 0 := of_decide_eq_true hk2
      have hkp : k < ps.length := by have := HY.out.2.2.2.2.2.1; omega
      have e : ps.getD k zeroPp = ps[k] := by simp [List.getD_eq_getElem?_getD, hkp]
      obtain ⟨f0, f1, -⟩ := pipeOk_parts (HP.out.2 _ (List.getElem_mem hkp))
      obtain ⟨hend, hne, hnd, hop⟩ := ring_parts (n := n) (ps := ps) (xs := ys) (k := k) (fun p hp => by obtain ⟨p0, p1, p2, p3, -⟩ := pipeOk_parts (HP.out.2 p hp); exact ⟨p0, p1, p2, p3⟩) n5 hkp hkx
      have hr6 : (ringP ps ys k).length ≤ 6 := by
        unfold ringP
        rw [List.length_drop]
        have := hend.2.2.2
        omega
      obtain ⟨rl1, rl2, rl3, rl4⟩ := ring_less (ps := ps) (xs := ys) HY.out.2.2.2.2.2.1 HY.out.2.2.2.2.2.2 hne hnd hop
      have hbl := bal_less HY.out.1 hkp hkx
      have hpk := pos_some hk1 hkx
      have hcomes := bal_comes HY.out.1 hkp hkx
      have hring : ringP ps ys k = (walkP ps ys ps[k].fr (-1)).1.drop (walkP ps ys ps[k].fr (-1)).2.toNat := by rw [ringP, e]
      rw [e] at hcomes
      have hl1 := List.length_pos_iff.2 hne
      obtain ⟨RG, hRG⟩ : ∃ RG, ringP ps ys k = RG := ⟨_, rfl⟩
      rw [hRG] at hne hnd hop hr6 rl1 rl2 rl3 rl4 hbl hring hl1
      have HRG := Lib.hid hRG
      have HR := Lib.hid (And.intro hnd (And.intro hop (And.intro rl4 (And.intro hbl (And.intro hf (And.intro hpk hcomes))))))
      obtain ⟨gp, rfl, gp1, gp2, cf, -⟩ := hp0.cellAt hB1 k hkp
      have hgpw := Nat.lt_of_lt_of_le gp2 hB1.size
      clear e hne hnd hop rl3 rl4 hbl hf hpk hcomes hRG hend hk2 hkx
      generalize ps[k].fr = fr0 at *
      have hnx : ∀ v, (v = fr0 ∨ ∃ k, k < ps.length ∧ (ps.getD k zeroPp).to = v ∧ 0 < ys.getD k 0) → v ≠ -1 → ∃ q, nextP ps ys v = some q := fun v hv _ => HR.out.2.2.2.2.2.2 v hv
      have HNX := Lib.hid hnx
      clear hnx
      go_wp2_with fail
      with_reducible refine (partFrom_any n fr0 (-1) _ _ ps ys b bf _ (hp0.keep hB1) hy1 HY.out.2.2.2.2.2.1 HP.out.1 f0 f1 (by omega) HNX.out).mono ?_
      rintro e w2 ⟨r7, rfl, hL, hown7, hb2⟩
      rw [← hring] at hL
      have hy2 := hy1.keep hb2
      have hO2 := hO1.keep hb2
      have hB2 : Below w.heap.size w w2 := hB1.trans (hb2.mono hB1.size)
      have hs2 := hb2.size
      obtain ⟨vs1, -, u2, -, -⟩ := id hO1
      have hlow : ∀ q, (Value.slice A5 N k5).ownBlock = some q → w.heap.size ≤ q ∧ q < w1.heap.size := fun q hq => u2.lt q hq
      have HLW := Lib.hid hlow
      have hml : (natsI RG).length = RG.length := by simp
      clear hb2 hy1 hO1 cf hring u2 hlow
      obtain ⟨g7, o7, c7, rfl, -⟩ := id hL
      rw [hml] at hL hown7 ⊢
      go_wp2_with fail
      with_reducible refine (leastIn_any _ _ RG ys bf _ hy2 hL (fun q hq => by have := (HR.out.2.1 q hq).1; rw [HY.out.2.2.2.2.2.1]; exact this) hr6).mono ?_
      rintro e w3 ⟨rfl, hb3⟩
      have hy3 := hy2.keep hb3
      have hO3 := hO2.keep hb3
      have hL3 := hL.keep hb3
      have hB3 : Below w.heap.size w w3 := hB2.trans (hb3.mono hB2.size)
      have hs3 := hb3.size
      obtain ⟨D, hD⟩ : ∃ D, leastP ys RG = D := ⟨_, rfl⟩
      rw [hD] at rl1 rl2 ⊢
      have HD := Lib.hid hD
      clear hb3 hy2 hO2 hL hD
      go_wp2_with fail
      with_reducible refine (partRow_any D _ (natsI RG) _ hL3 (by rw [hml]; exact Nat.succ_le_of_lt hl1) (by rw [hml]; exact hr6)).mono ?_
      rintro e w4 ⟨rP, rfl, hI4, hb4⟩
      have hy4 := hy3.keep hb4
      have hL4 := hL3.keep hb4
      have hB4 : Below w.heap.size w w4 := hB3.trans (hb4.mono hB3.size)
      have hs4 := hb4.size
      have hz3 := hB3.size
      obtain ⟨vs, v1, v2, v3, v4, v5⟩ := id hO3
      have VAP := Lib.hid (v5.snoc (B := w3.heap.size) (fun i h q hq => ((v4 i (by omega) h).1.lt q hq).2) (fun q hq => (hI4.1.lt q hq).1))
      replace v2 := own_keep v2 (Nat.le_refl _) hb4
      replace v4 : ∀ k (h : k < Ls.length) (h' : k < vs.length), Ints w4 w.heap.size vs[k] Ls[k] := fun k hk hk' => (v4 k hk hk').keep hb4
      clear v5
      obtain ⟨A6, c6, rfl, -, -, -, -⟩ := hI4.form
      obtain ⟨M6, hM6⟩ : ∃ M6, (D :: natsI RG).length = M6 := ⟨_, rfl⟩
      rw [hM6] at hI4 VAP ⊢
      clear hM6 hb4 hy3 hO3 hL3
      have hN := HY.out.2.2.2.1
      have hLf := HY.out.2.2.1
      rw [← hN] at v2 v3 hLf
      have V4 := Lib.hid v4
      have V1 := Lib.hid v1
      have hrow : ∀ q', (Value.slice A5 N k5).ownBlock = some q' → w.heap.size ≤ q' := fun q' hq => (v2.lt q' hq).1
      clear v4 v1 hN
      go_wp2_with (first
        | (at_builtin
           go_must (refine wpList_append_lies _ rfl _ _ 28 rfl w.heap.size 30 iS _ 1 24 Tryz.underlying28 hiS hS0 hS1 hS2 rfl (by omega) (.slice A5 N k5) N vs rfl (v2.alloc _) ⟨w4.heap.size, 0, none⟩ 1 1 [.slice A6 M6 c6] rfl rfl (World.news_of_block (cs := #[.slice A6 M6 c6]) (t := 30) (fr := (0, 0)) (heap_alloc_new _ _)) (by simp [Value.oneCell']) (by omega) (by unfold maxLen; omega) (by omega) (by simp; omega) _ rfl ?_)
           intro g5 k6 w5 hown5 hgr5 hat5 hlt5))
      have v2a := v2.alloc (.cells #[.slice A6 M6 c6] 30)
      have hB5 : Below w.heap.size w4 w5 := Below.grown (w := w4.alloc (.cells #[.slice A6 M6 c6] 30)) (by (repeat (first | (with_reducible assumption) | (with_reducible exact Below.refl _ _) | ((with_reducible refine Below.alloc ?_ ?hsz _); (case hsz => (first | omega | (simp; done) | (simp; omega) | (simp at *; omega)))) | ((with_reducible refine Below.setCell ?_ ?hsz _); (case hsz => (first | omega | (simp; done) | (simp; omega) | (simp at *; omega)))) | (with_reducible refine Below.drew ?_) | (with_reducible refine below_drewN ?_ _) | ((with_reducible refine Below.trans ?_ (Below.mono (by with_reducible assumption) ?hsz)); (case hsz => (first | omega | (simp; done) | (simp; omega) | (simp at *; omega))))))) hgr5 (by (first | omega | (simp; done) | (simp; omega) | (simp at *; omega))) hrow
      have hBw5 : Below w.heap.size w w5 := hB4.trans hB5
      have hy5 := (hy4.alloc1 (.cells #[.slice A6 M6 c6] 30)).otherV v2a hgr5
      have hI5' := (hI4.mono (b' := w.heap.size) (by omega)).alloc1 (.cells #[.slice A6 M6 c6] 30)
      have hN := HY.out.2.2.2.1
      have hO5 : OwnRowsV w5 w.heap.size (.slice (some ⟨g5, 0, none⟩) (Ls.length + 1) k6) (Ls ++ [D :: natsI RG]) := rows_snocV V1.out (by rw [← hN]; exact v2a) (fun k hk hk' => (V4.out k hk hk').alloc1 _) hI5' VAP.out (by unfold small; omega) hgr5 (by rw [← hN]; exact hown5)
      have hL5 := (hL4.keep (w' := w4.alloc (.cells #[.slice A6 M6 c6] 30)) (by (repeat (first | (with_reducible assumption) | (with_reducible exact Below.refl _ _) | ((with_reducible refine Below.alloc ?_ ?hsz _); (case hsz => (first | omega | (simp; done) | (simp; omega) | (simp at *; omega)))) | ((with_reducible refine Below.setCell ?_ ?hsz _); (case hsz => (first | omega | (simp; done) | (simp; omega) | (simp at *; omega)))) | (with_reducible refine Below.drew ?_) | (with_reducible refine below_drewN ?_ _) | ((with_reducible refine Below.trans ?_ (Below.mono (by with_reducible assumption) ?hsz)); (case hsz => (first | omega | (simp; done) | (simp; omega) | (simp at *; omega)))))))).far hgr5 (fun q hq e => by have h1 := hown7 q hq; have h2 := (HLW.out q e.symm).2; omega)
      rw [← hN] at hO5
      clear hown5 hgr5 hat5 v2a hI5' hL4 hI4 hy4 hN
      go_wp2_with fail
      with_reducible refine (takenOut_any D _ _ RG ys bf _ hy5 hL5 (fun q hq => by have := (HR.out.2.1 q hq).1; rw [HY.out.2.2.2.2.2.1]; exact this) hr6 HR.out.1 HY.out.2.2.2.2.2.2 (by omega) (by rw [HY.out.2.2.2.2.2.1]; omega)).mono ?_
      rintro e w6 ⟨r8, rfl, hr8, hb6⟩
      have hO6 := hO5.keep hb6
      have hBw6 : Below w.heap.size w w6 := hBw5.trans (hb6.mono hBw5.size)
      have hN := HY.out.2.2.2.1
      have hpf := HY.out.2.1
      have hpk := HR.out.2.2.2.2.2.1
      have hfin : (Ls ++ [D :: natsI RG]) ++ ringsP ps (f - 1) (lessP D ys RG) = ringsL ps xs := by
        rw [← HY.out.2.2.2.2.1, show f = (f - 1) + 1 by omega, rings_on HR.out.2.2.2.2.1, HRG.out, HD.out, List.append_assoc]
        simp
      have hp6 : posN (lessP D ys RG) ≤ f - 1 := by
        have h4 := HR.out.2.2.1
        rw [HD.out] at h4
        omega
      have hb7 : balB n ps (lessP D ys RG) = true := by
        have h4 := HR.out.2.2.2.1
        rw [HD.out] at h4
        exact h4
      have HNN := Lib.hid hN
      clear hO5 hb6 hN
      go_wp2
      go_roundw
      case rel => exact ⟨f - 1, N + 1, k6, some ⟨g5, 0, none⟩, Ls ++ [D :: natsI RG], lessP D ys RG, _, _, rfl, hr8, hb7, hp6, by have hN := HNN.out; rw [List.length_append, ← hN]; simp; omega, by rw [List.length_append, ← HNN.out]; rfl, rfl, hO6, hfin, hBw6⟩
      case measure => simp [sliceLen]; omega

end Go.Proofs.YtmgpekdhcghabaaGreat

/- Appending a row, whatever it is, nothing too. -/
namespace Go.Proofs.YtmgpekdhcghabaaGreat
open Go.RowKit

/-- a row that is appended: its cells -/
def SrcOk (w : World) (size : Nat) (x : Value) (m : Nat) (news : List Value) : Prop :=
  (x = .slice none 0 0 ∧ m = 0 ∧ news = []) ∨ ∃ ad c, x = .slice (some ad) m c ∧ news.length = m * size ∧ (∀ j u, news[j]? = some u → w.cell? (ad.add j) = some u) ∧ ∀ u ∈ news, u.oneCell' = true

theorem run_append_src {P : Program} {w : World} (base : Nat) (t ty e : TypeId) (i : TypeInfo) (z : Value) (size bytes : Nat) (ht : P.underlying t = some (.slice e)) (hi : P.info? e = some i) (hz : i.zero = some z)
    (hsize : i.size = size) (hby : i.bytes = bytes) (hzs : z.cells.size = size) (hsz : 0 < size) (v x : Value) (n m : Nat) (xs news : List Value) (hown : w.ownsRow base e size v n xs) (hsrc : SrcOk w size x m news)
    (h63 : n + m ≤ maxLen) (hbytes : (n + m) * bytes ≤ 140737488355328) (hbase : base ≤ w.heap.size) :
    ∃ v' w', (Builtin.append_ #[t, t] ty #[v, x]).run P w = .ok v' w' ∧ w'.ownsRow base e size v' (n + m) (xs ++ news) ∧ w.grownBy w' v.ownBlock ∧ (v'.ownBlock = v.ownBlock ∨ v'.ownBlock = some w.heap.size) := by
  rcases hsrc with ⟨rfl, rfl, rfl⟩ | ⟨ad, c, rfl, hl, hn, h1⟩
  · exact ⟨v, w, run_append_owned_none w base t ty e i size ht hi v n xs hown, by simpa using hown, World.grownBy.refl w _, .inl rfl⟩
  · obtain ⟨v', w', hr, h2, h3, -, h5⟩ := run_append_own_at (P := P) w base t ty e i z size bytes ht hi hz hsize hby hzs hsz v n xs hown ad m c news hl hn h1 h63 hbytes hbase
    exact ⟨v', w', hr, h2, h3, h5⟩

theorem wp_append_src {P : Program} {w : World} {o : Oper} {a : Act} {K : Act → World → Prop} {Q : Exit → Act → World → Prop} (s x : Operand) (t : TypeId)
    (ho : o.op = .call { callee := .builtin .append, args := #[s, x], argTypes := #[t, t] })
    (base : Nat) (e : TypeId) (i : TypeInfo) (z : Value) (size bytes : Nat) (ht : P.underlying t = some (.slice e)) (hi : P.info? e = some i) (hz : i.zero = some z)
    (hsize : i.size = size) (hby : i.bytes = bytes) (hzs : z.cells.size = size) (hsz : 0 < size) (v u : Value) (n m : Nat) (xs news : List Value) (hs : a.eval s = v) (hx : a.eval x = u) (hown : w.ownsRow base e size v n xs) (hsrc : SrcOk w size u m news)
    (h63 : n + m ≤ maxLen) (hbytes : (n + m) * bytes ≤ 140737488355328) (hbase : base ≤ w.heap.size)
    (h : ∀ v' w', w'.ownsRow base e size v' (n + m) (xs ++ news) → w.grownBy w' v.ownBlock → (v'.ownBlock = v.ownBlock ∨ v'.ownBlock = some w.heap.size) → K (a.put o.dst v') w') : o.wp P a w K Q := by
  obtain ⟨v', w', hr, h2, h3, h4⟩ := run_append_src (P := P) base t o.type e i z size bytes ht hi hz hsize hby hzs hsz v u n m xs news hown hsrc h63 hbytes hbase
  unfold Oper.wp execOp
  simp only [ho, resolve, invoke, builtin, Sem.run_bind, Sem.run_pure, Result.andThen_ok, List.map_toArray, List.map_cons, List.map_nil, hs, hx, hr]
  exact h v' w' h2 h3 h4

theorem wpList_append_src {P : Program} {w : World} {ops : Array Oper} {rest : List Oper} {o : Oper} {a : Act} {Q : Exit → Act → World → Prop} (hgd : o.guard = none) (s x : Operand) (t : TypeId)
    (ho : o.op = .call { callee := .builtin .append, args := #[s, x], argTypes := #[t, t] })
    (base : Nat) (e : TypeId) (i : TypeInfo) (z : Value) (size bytes : Nat) (ht : P.underlying t = some (.slice e)) (hi : P.info? e = some i) (hz : i.zero = some z)
    (hsize : i.size = size) (hby : i.bytes = bytes) (hzs : z.cells.size = size) (hsz : 0 < size) (v u : Value) (n m : Nat) (xs news : List Value) (hs : a.eval s = v) (hx : a.eval x = u) (hown : w.ownsRow base e size v n xs) (hsrc : SrcOk w size u m news)
    (h63 : n + m ≤ maxLen) (hbytes : (n + m) * bytes ≤ 140737488355328) (hbase : base ≤ w.heap.size)
    (h : ∀ v' w', w'.ownsRow base e size v' (n + m) (xs ++ news) → w.grownBy w' v.ownBlock → (v'.ownBlock = v.ownBlock ∨ v'.ownBlock = some w.heap.size) → wpList P ops Q rest (a.put o.dst v') w') : wpList P ops Q (o :: rest) a w :=
  wpList_plain hgd fun _ hK => wp_append_src s x t ho base e i z size bytes ht hi hz hsize hby hzs hsz v u n m xs news hs hx hown hsrc h63 hbytes hbase fun v' w' h2 h3 h4 => hK _ _ (h v' w' h2 h3 h4)

theorem add_nat (g o j : Nat) : (⟨g, o, none⟩ : Addr).add j = ⟨g, o + j, none⟩ := by
  unfold Addr.add
  split
  · next h => subst h; rfl
  · rfl
theorem own_src {w : World} {b e size n : Nat} {v : Value} {xs : List Value} (h : w.ownsRow b e size v n xs) (h1 : ∀ u ∈ xs, u.oneCell' = true) : SrcOk w size v n xs := by
  rcases h.2 with ⟨rfl, rfl⟩ | ⟨g, cap, cur, rfl, hb, hh, r1, r2, r3, r4⟩
  · exact .inl ⟨rfl, rfl, List.eq_nil_of_length_eq_zero (by simpa using h.1)⟩
  · refine .inr ⟨⟨g, 0, none⟩, cap, rfl, h.1, fun j u hj => ?_, h1⟩
    obtain ⟨A1, c1, hv, -, -, hc⟩ := own_form h
    obtain ⟨g', e1, -, -, c0, -⟩ := hc j u hj
    injection hv with e2
    rw [← e2] at e1
    injection e1 with e1
    injection e1 with e1
    subst e1
    rw [add_nat, Nat.zero_add]
    exact c0
end Go.Proofs.YtmgpekdhcghabaaGreat

/- Contracts of the functions of chapter 4 in the program: PartsOf. -/
namespace Go.Proofs.YtmgpekdhcghabaaGreat
open Go.RowKit

theorem flows_no {n i j : Int} {ps : List Pp} {xs : List Int} {k : Nat} (hk : (k : Int) < n) (h1 : (k : Int) ≠ i) (h2 : (k : Int) ≠ j) (h3 : exc (k : Int) ps xs ≠ 0) : flowsB n ps xs i j = false := by
  have : ((List.range n.toNat).all fun k : Nat => decide ((k : Int) = i) || decide ((k : Int) = j) || decide (exc (k : Int) ps xs = 0)) = false := by
    rw [List.all_eq_false]
    exact ⟨k, List.mem_range.2 (by omega), by simp [h1, h2, h3]⟩
  rw [flowsB, this, Bool.false_and]
theorem flows_all {n i j : Int} {ps : List Pp} {xs : List Int} (h : ∀ q : Nat, (q : Int) < n → (q : Int) = i ∨ (q : Int) = j ∨ exc (q : Int) ps xs = 0) : flowsB n ps xs i j = decide (0 ≤ exc j ps xs) := by
  have : ((List.range n.toNat).all fun k : Nat => decide ((k : Int) = i) || decide ((k : Int) = j) || decide (exc (k : Int) ps xs = 0)) = true := by
    rw [List.all_eq_true]
    intro q hq
    have := h q (by have := List.mem_range.1 hq; omega)
    simp only [Bool.or_eq_true, decide_eq_true_eq]
    rcases this with h | h | h
    · exact .inl (.inl h)
    · exact .inl (.inr h)
    · exact .inr h
  rw [flowsB, this, Bool.true_and]

set_option maxHeartbeats 2000000 in
set_option maxRecDepth 20000 in
theorem flowsBetween_any (n i j : Int) (v u : Value) (ps : List Pp) (xs : List Int) (b b' : Nat) (w : World) (hp : Pipes w b v ps) (hx : Ints w b' u xs) (hok : flowOkB n ps xs = true) :
    Calls Tryz.prog 62 #[.agg #[.int .i64 n, v], u, .int .i64 i, .int .i64 j] w fun e w' => e = .returned (.bool (flowsB n ps xs i j)) ∧ Below w.heap.size w w' := by
  have hp0 := hp
  have hx0 := hx
  obtain ⟨A, c, rfl, -, -, -, -⟩ := hp.form
  obtain ⟨A0, c0, rfl, -, -, -, -⟩ := hx.form
  obtain ⟨hn, hlen, -⟩ := flowOk_parts hok
  obtain ⟨n2, n5, -, -⟩ := netOk_parts hn
  have Hok := Lib.hid hok
  have bx0 := Box2.new w (.int .i64 n) (.slice A ps.length c) 25
  clear hok hn hlen
  go_enter Tryz.func62, Tryz.ntmps62
  go_wp2
  go_loopw [12] (fun t wr => ∃ k : Nat, (k : Int) ≤ n ∧ t = .int .i64 k ∧ (∀ q : Nat, q < k → (q : Int) = i ∨ (q : Int) = j ∨ exc (q : Int) ps xs = 0) ∧ Box2 wr w.heap.size (.int .i64 n) (.slice A ps.length c) ∧ Below w.heap.size w wr) (fun t _ => (n - intOf t).toNat)
  case atStart => exact ⟨0, by omega, rfl, fun q hq => absurd hq (by omega), bx0, by (repeat (first | (with_reducible assumption) | (with_reducible exact Below.refl _ _) | ((with_reducible refine Below.alloc ?_ ?hsz _); (case hsz => (first | omega | (simp; done) | (simp; omega) | (simp at *; omega)))) | ((with_reducible refine Below.setCell ?_ ?hsz _); (case hsz => (first | omega | (simp; done) | (simp; omega) | (simp at *; omega)))) | (with_reducible refine Below.drew ?_) | (with_reducible refine below_drewN ?_ _) | ((with_reducible refine Below.trans ?_ (Below.mono (by with_reducible assumption) ?hsz)); (case hsz => (first | omega | (simp; done) | (simp; omega) | (simp at *; omega))))))⟩
  case round =>
    clear bx0
    obtain ⟨k, hk, rfl, hall, bx, hB⟩ := hrel
    have Hall := Lib.hid hall
    clear hall
    obtain ⟨bs, d0, d1, -, -⟩ := id bx
    have next : ∀ (h : (k : Int) = i ∨ (k : Int) = j ∨ exc (k : Int) ps xs = 0), Hid (∀ q : Nat, q < k + 1 → (q : Int) = i ∨ (q : Int) = j ∨ exc (q : Int) ps xs = 0) := fun h => Lib.hid (by
      intro q hq
      rcases Nat.lt_succ_iff_lt_or_eq.1 hq with hq | hq
      · exact Hall.out q hq
      · subst hq; exact h)
    have HN := Lib.hid next
    clear next
    by_cases hlt : (k : Int) < n
    · have hltd : decide ((k : Int) < n) = true := decide_eq_true hlt
      by_cases hi : (k : Int) = i
      · have Hn := HN.out (.inl hi)
        have hib : ((k : Int) != i) = false := by simp [hi]
        clear hi
        go_wp2
        go_roundw
        case rel => exact ⟨k + 1, by omega, by go_num, Hn.out, bx, hB⟩
        case measure => simp [intOf]; omega
      · have hib : ((k : Int) != i) = true := by simpa using hi
        have HI := Lib.hid hi
        clear hi
        by_cases hj : (k : Int) = j
        · have Hn := HN.out (.inr (.inl hj))
          have hjb : ((k : Int) != j) = false := by simp [hj]
          clear hj
          go_wp2
          go_roundw
          case rel => exact ⟨k + 1, by omega, by go_num, Hn.out, bx, hB⟩
          case measure => simp [intOf]; omega
        · have hjb : ((k : Int) != j) = true := by simpa using hj
          have HJ := Lib.hid hj
          clear hj
          go_wp2_with fail
          refine (excessOf_any (k : Int) n _ _ ps xs b b' _ ((hp0.keep hB).keep (by (repeat (first | (with_reducible assumption) | (with_reducible exact Below.refl _ _) | ((with_reducible refine Below.alloc ?_ ?hsz _); (case hsz => (first | omega | (simp; done) | (simp; omega) | (simp at *; omega)))) | ((with_reducible refine Below.setCell ?_ ?hsz _); (case hsz => (first | omega | (simp; done) | (simp; omega) | (simp at *; omega)))) | (with_reducible refine Below.drew ?_) | (with_reducible refine below_drewN ?_ _) | ((with_reducible refine Below.trans ?_ (Below.mono (by with_reducible assumption) ?hsz)); (case hsz => (first | omega | (simp; done) | (simp; omega) | (simp at *; omega)))))))) ((hx0.keep hB).keep (by (repeat (first | (with_reducible assumption) | (with_reducible exact Below.refl _ _) | ((with_reducible refine Below.alloc ?_ ?hsz _); (case hsz => (first | omega | (simp; done) | (simp; omega) | (simp at *; omega)))) | ((with_reducible refine Below.setCell ?_ ?hsz _); (case hsz => (first | omega | (simp; done) | (simp; omega) | (simp at *; omega)))) | (with_reducible refine Below.drew ?_) | (with_reducible refine below_drewN ?_ _) | ((with_reducible refine Below.trans ?_ (Below.mono (by with_reducible assumption) ?hsz)); (case hsz => (first | omega | (simp; done) | (simp; omega) | (simp at *; omega)))))))) Hok.out).mono ?_
          rintro e w1 ⟨rfl, hb1⟩
          have bx1 := bx.keep hb1
          have hB1 : Below w.heap.size w w1 := by (repeat (first | (with_reducible assumption) | (with_reducible exact Below.refl _ _) | ((with_reducible refine Below.alloc ?_ ?hsz _); (case hsz => (first | omega | (simp; done) | (simp; omega) | (simp at *; omega)))) | ((with_reducible refine Below.setCell ?_ ?hsz _); (case hsz => (first | omega | (simp; done) | (simp; omega) | (simp at *; omega)))) | (with_reducible refine Below.drew ?_) | (with_reducible refine below_drewN ?_ _) | ((with_reducible refine Below.trans ?_ (Below.mono (by with_reducible assumption) ?hsz)); (case hsz => (first | omega | (simp; done) | (simp; omega) | (simp at *; omega))))))
          clear bx hb1 d0 d1 bs
          by_cases he : exc (k : Int) ps xs = 0
          · have Hn := HN.out (.inr (.inr he))
            have heb : (exc (k : Int) ps xs != 0) = false := by simp [he]
            clear he
            go_wp2
            go_roundw
            case rel => exact ⟨k + 1, by omega, by go_num, Hn.out, bx1, hB1⟩
            case measure => simp [intOf]; omega
          · have heb : (exc (k : Int) ps xs != 0) = true := by simpa using he
            have Hr := Lib.hid (flows_no (i := i) (j := j) hlt HI.out HJ.out he)
            clear he
            go_wp2
            go_ret
            exact ⟨ret_bool Hr.out.symm, by (repeat (first | (with_reducible assumption) | (with_reducible exact Below.refl _ _) | ((with_reducible refine Below.alloc ?_ ?hsz _); (case hsz => (first | omega | (simp; done) | (simp; omega) | (simp at *; omega)))) | ((with_reducible refine Below.setCell ?_ ?hsz _); (case hsz => (first | omega | (simp; done) | (simp; omega) | (simp at *; omega)))) | (with_reducible refine Below.drew ?_) | (with_reducible refine below_drewN ?_ _) | ((with_reducible refine Below.trans ?_ (Below.mono (by with_reducible assumption) ?hsz)); (case hsz => (first | omega | (simp; done) | (simp; omega) | (simp at *; omega))))))⟩
    · have hltd : decide ((k : Int) < n) = false := decide_eq_false hlt
      have Hr := Lib.hid (flows_all (n := n) (i := i) (j := j) (ps := ps) (xs := xs) fun q hq => Hall.out q (by omega))
      go_wp2_with fail
      refine (excessOf_any j n _ _ ps xs b b' _ ((hp0.keep hB).keep (by (repeat (first | (with_reducible assumption) | (with_reducible exact Below.refl _ _) | ((with_reducible refine Below.alloc ?_ ?hsz _); (case hsz => (first | omega | (simp; done) | (simp; omega) | (simp at *; omega)))) | ((with_reducible refine Below.setCell ?_ ?hsz _); (case hsz => (first | omega | (simp; done) | (simp; omega) | (simp at *; omega)))) | (with_reducible refine Below.drew ?_) | (with_reducible refine below_drewN ?_ _) | ((with_reducible refine Below.trans ?_ (Below.mono (by with_reducible assumption) ?hsz)); (case hsz => (first | omega | (simp; done) | (simp; omega) | (simp at *; omega)))))))) ((hx0.keep hB).keep (by (repeat (first | (with_reducible assumption) | (with_reducible exact Below.refl _ _) | ((with_reducible refine Below.alloc ?_ ?hsz _); (case hsz => (first | omega | (simp; done) | (simp; omega) | (simp at *; omega)))) | ((with_reducible refine Below.setCell ?_ ?hsz _); (case hsz => (first | omega | (simp; done) | (simp; omega) | (simp at *; omega)))) | (with_reducible refine Below.drew ?_) | (with_reducible refine below_drewN ?_ _) | ((with_reducible refine Below.trans ?_ (Below.mono (by with_reducible assumption) ?hsz)); (case hsz => (first | omega | (simp; done) | (simp; omega) | (simp at *; omega)))))))) Hok.out).mono ?_
      rintro e w1 ⟨rfl, hb1⟩
      go_wp2
      go_ret
      exact ⟨ret_bool Hr.out.symm, by (repeat (first | (with_reducible assumption) | (with_reducible exact Below.refl _ _) | ((with_reducible refine Below.alloc ?_ ?hsz _); (case hsz => (first | omega | (simp; done) | (simp; omega) | (simp at *; omega)))) | ((with_reducible refine Below.setCell ?_ ?hsz _); (case hsz => (first | omega | (simp; done) | (simp; omega) | (simp at *; omega)))) | (with_reducible refine Below.drew ?_) | (with_reducible refine below_drewN ?_ _) | ((with_reducible refine Below.trans ?_ (Below.mono (by with_reducible assumption) ?hsz)); (case hsz => (first | omega | (simp; done) | (simp; omega) | (simp at *; omega))))))⟩

theorem Apart.app {vs us : List Value} {B : Nat} (h : Apart vs) (h' : Apart us) (h1 : ∀ i (h : i < vs.length) q, vs[i].ownBlock = some q → q < B) (h2 : ∀ i (h : i < us.length) q, us[i].ownBlock = some q → B ≤ q) : Apart (vs ++ us) := by
  intro i j hij hj
  have hjl : j < vs.length + us.length := by simpa using hj
  by_cases hjv : j < vs.length
  · have ei : (vs ++ us)[i]'(by simp; omega) = vs[i]'(by omega) := List.getElem_append_left (by omega)
    have ej : (vs ++ us)[j] = vs[j] := List.getElem_append_left hjv
    rw [ei, ej]
    exact h i j hij hjv
  · have ej : (vs ++ us)[j] = us[j - vs.length]'(by omega) := List.getElem_append_right (by omega)
    by_cases hiv : i < vs.length
    · have ei : (vs ++ us)[i]'(by simp; omega) = vs[i] := List.getElem_append_left hiv
      rw [ei, ej]
      cases hv : vs[i].ownBlock with
      | none => exact .inl rfl
      | some k =>
        refine .inr fun he => ?_
        have a1 := h1 i hiv k hv
        have a2 := h2 (j - vs.length) (by omega) k he.symm
        omega
    · have ei : (vs ++ us)[i]'(by simp; omega) = us[i - vs.length]'(by omega) := List.getElem_append_right (by omega)
      rw [ei, ej]
      exact h' (i - vs.length) (j - vs.length) (by omega) (by omega)

theorem rows_appV {w w6 : World} {b : Nat} {v2 v6 : Value} {Ls Ms : List (List Int)} {vs us : List Value} (h1 : vs.length = Ls.length) (h1' : us.length = Ms.length) (h2 : w.ownsRow b 30 1 v2 Ls.length vs)
    (h4 : ∀ k (h : k < Ls.length) (h' : k < vs.length), Ints w b vs[k] Ls[k]) (h4' : ∀ k (h : k < Ms.length) (h' : k < us.length), Ints w b us[k] Ms[k]) (hap : Apart (vs ++ us)) (hs : Ls.length + Ms.length ≤ small) (hg : w.grownBy w6 v2.ownBlock)
    (ho : w6.ownsRow b 30 1 v6 (Ls.length + Ms.length) (vs ++ us)) : OwnRowsV w6 b v6 (Ls ++ Ms) := by
  have hl : (Ls ++ Ms).length = Ls.length + Ms.length := by simp
  refine ⟨vs ++ us, by simp [h1, h1'], by rw [hl]; exact ho, by rw [hl]; exact hs, fun k hk hk' => ?_, hap⟩
  by_cases hlt : k < Ls.length
  · have e1 : (vs ++ us)[k] = vs[k]'(by omega) := List.getElem_append_left (by omega)
    have e2 : (Ls ++ Ms)[k] = Ls[k] := List.getElem_append_left hlt
    rw [e1, e2]
    exact (h4 k hlt (by omega)).otherV h2 hg
  · have hk2 : k < Ls.length + Ms.length := by rw [hl] at hk; exact hk
    have e1 : (vs ++ us)[k] = us[k - vs.length]'(by omega) := List.getElem_append_right (by omega)
    have e2 : (Ls ++ Ms)[k] = Ms[k - Ls.length]'(by omega) := List.getElem_append_right (by omega)
    have e3 : us[k - vs.length]'(by omega) = us[k - Ls.length]'(by omega) := by congr 1; omega
    rw [e1, e2, e3]
    exact (h4' (k - Ls.length) (by omega) (by omega)).otherV h2 hg

theorem rows_src {w : World} {b n : Nat} {v : Value} {vs : List Value} {Ls : List (List Int)} (h : w.ownsRow b 30 1 v n vs) (h1 : vs.length = Ls.length) (h4 : ∀ k (h : k < Ls.length) (h' : k < vs.length), Ints w b vs[k] Ls[k]) : SrcOk w 1 v n vs :=
  own_src h fun u hu => by
    obtain ⟨k, hk, rfl⟩ := List.getElem_of_mem hu
    obtain ⟨A, c, e, -⟩ := (h4 k (by omega) hk).form
    rw [e]
    rfl

theorem OwnRowsV.mono {w : World} {b b' : Nat} {v : Value} {Ls : List (List Int)} (h : OwnRowsV w b v Ls) (hb : b' ≤ b) : OwnRowsV w b' v Ls := by
  obtain ⟨vs, h1, h2, h3, h4, h5⟩ := h
  exact ⟨vs, h1, own_mono h2 hb, h3, fun k hk hk' => (h4 k hk hk').mono hb, h5⟩
theorem parts_on {ps : List Pp} {a b left : Int} {xs : List Int} {f : Nat} (h : 0 < left) : partsP ps a b (f + 1) left xs = (partD ps xs a b left :: natsI (partP ps xs a b)) :: partsP ps a b f (partL ps xs a b left) (lessP (partD ps xs a b left) xs (partP ps xs a b)) := by rw [partsP, if_pos h]
theorem parts_off {ps : List Pp} {a b left : Int} {xs : List Int} {f : Nat} (h : ¬ 0 < left) : partsP ps a b (f + 1) left xs = ringsL ps xs := by rw [partsP, if_neg h]
theorem parts_yes {n a b : Int} {ps : List Pp} {xs : List Int} (h : partsOkB n ps xs a b = true) : partsR n ps xs a b = partsP ps a b 10 (exc b ps xs) xs := by rw [partsR, if_pos h]
theorem parts_no {n a b : Int} {ps : List Pp} {xs : List Int} (h : partsOkB n ps xs a b = false) : partsR n ps xs a b = [] := by rw [partsR, if_neg (by simp [h])]

set_option maxHeartbeats 4000000 in
set_option maxRecDepth 20000 in
theorem partsIn_any (n i j : Int) (v u : Value) (ps : List Pp) (xs : List Int) (b b' : Nat) (w : World) (hp : Pipes w b v ps) (hx : Ints w b' u xs) (hok : partsOkB n ps xs i j = true) :
    Calls Tryz.prog 29 #[.agg #[.int .i64 n, v], u, .int .i64 i, .int .i64 j] w fun e w' => ∃ r, e = .returned (.tuple #[r, .bool true]) ∧ OwnRowsV w' w.heap.size r (partsR n ps xs i j) ∧ Below w.heap.size w w' := by
  have hp0 := hp
  have hx0 := hx
  obtain ⟨A, c, rfl, -, -, -, -⟩ := hp.form
  obtain ⟨A0, c0, rfl, -, -, -, -⟩ := hx.form
  obtain ⟨hst, hl0⟩ := PartSt.of hok
  have Hyes := Lib.hid (parts_yes hok)
  have hok' := hok
  simp only [partsOkB, Bool.and_eq_true] at hok'
  obtain ⟨⟨hfl, he⟩, hfb⟩ := hok'
  obtain ⟨hn, hlen, -⟩ := flowOk_parts hfl
  obtain ⟨n2, n5, hl7, hpo⟩ := netOk_parts hn
  have hpos : leftN2 xs (exc j ps xs) < 10 := by
    have := pos_le (xs := xs)
    unfold leftN2
    split <;> omega
  obtain ⟨-, i0, i1, j0, j1, hij⟩ := ends_parts he
  obtain ⟨iS, hiS, hS0, hS1, hS2⟩ := info_parts ints_info
  have HP := Lib.hid (And.intro hn (And.intro hl7 (And.intro hst (And.intro hl0 (And.intro hpos hfl)))))
  have bx0 := Box2.new w (.int .i64 n) (.slice A ps.length c) 25
  clear hok hst hl0 hpos hlen hn hpo
  go_enter Tryz.func29, Tryz.ntmps29
  go_wp2_with fail
  refine (flowOk_any n _ _ ps xs b b' _ (hp0.keep (by (repeat (first | (with_reducible assumption) | (with_reducible exact Below.refl _ _) | ((with_reducible refine Below.alloc ?_ ?hsz _); (case hsz => (first | omega | (simp; done) | (simp; omega) | (simp at *; omega)))) | ((with_reducible refine Below.setCell ?_ ?hsz _); (case hsz => (first | omega | (simp; done) | (simp; omega) | (simp at *; omega)))) | (with_reducible refine Below.drew ?_) | (with_reducible refine below_drewN ?_ _) | ((with_reducible refine Below.trans ?_ (Below.mono (by with_reducible assumption) ?hsz)); (case hsz => (first | omega | (simp; done) | (simp; omega) | (simp at *; omega)))))))) (hx0.keep (by (repeat (first | (with_reducible assumption) | (with_reducible exact Below.refl _ _) | ((with_reducible refine Below.alloc ?_ ?hsz _); (case hsz => (first | omega | (simp; done) | (simp; omega) | (simp at *; omega)))) | ((with_reducible refine Below.setCell ?_ ?hsz _); (case hsz => (first | omega | (simp; done) | (simp; omega) | (simp at *; omega)))) | (with_reducible refine Below.drew ?_) | (with_reducible refine below_drewN ?_ _) | ((with_reducible refine Below.trans ?_ (Below.mono (by with_reducible assumption) ?hsz)); (case hsz => (first | omega | (simp; done) | (simp; omega) | (simp at *; omega))))))))).mono ?_
  rintro e w1 ⟨rfl, hb1⟩
  rw [hfl]
  have bx1 := bx0.keep hb1
  have hB1 : Below w.heap.size w w1 := by (repeat (first | (with_reducible assumption) | (with_reducible exact Below.refl _ _) | ((with_reducible refine Below.alloc ?_ ?hsz _); (case hsz => (first | omega | (simp; done) | (simp; omega) | (simp at *; omega)))) | ((with_reducible refine Below.setCell ?_ ?hsz _); (case hsz => (first | omega | (simp; done) | (simp; omega) | (simp at *; omega)))) | (with_reducible refine Below.drew ?_) | (with_reducible refine below_drewN ?_ _) | ((with_reducible refine Below.trans ?_ (Below.mono (by with_reducible assumption) ?hsz)); (case hsz => (first | omega | (simp; done) | (simp; omega) | (simp at *; omega))))))
  clear bx0 hb1
  obtain ⟨bs, d0, d1, -, -⟩ := id bx1
  go_wp2_with fail
  refine (endsOk_any n i j _ ps b _ ((hp0.keep hB1).keep (by (repeat (first | (with_reducible assumption) | (with_reducible exact Below.refl _ _) | ((with_reducible refine Below.alloc ?_ ?hsz _); (case hsz => (first | omega | (simp; done) | (simp; omega) | (simp at *; omega)))) | ((with_reducible refine Below.setCell ?_ ?hsz _); (case hsz => (first | omega | (simp; done) | (simp; omega) | (simp at *; omega)))) | (with_reducible refine Below.drew ?_) | (with_reducible refine below_drewN ?_ _) | ((with_reducible refine Below.trans ?_ (Below.mono (by with_reducible assumption) ?hsz)); (case hsz => (first | omega | (simp; done) | (simp; omega) | (simp at *; omega))))))))).mono ?_
  rintro e w2 ⟨rfl, hb2⟩
  rw [he]
  have bx2 := bx1.keep hb2
  have hB2 : Below w.heap.size w w2 := by (repeat (first | (with_reducible assumption) | (with_reducible exact Below.refl _ _) | ((with_reducible refine Below.alloc ?_ ?hsz _); (case hsz => (first | omega | (simp; done) | (simp; omega) | (simp at *; omega)))) | ((with_reducible refine Below.setCell ?_ ?hsz _); (case hsz => (first | omega | (simp; done) | (simp; omega) | (simp at *; omega)))) | (with_reducible refine Below.drew ?_) | (with_reducible refine below_drewN ?_ _) | ((with_reducible refine Below.trans ?_ (Below.mono (by with_reducible assumption) ?hsz)); (case hsz => (first | omega | (simp; done) | (simp; omega) | (simp at *; omega))))))
  clear bx1 hb2 d0 d1 bs
  obtain ⟨bs, d0, d1, -, -⟩ := id bx2
  go_wp2_with fail
  refine (flowsBetween_any n i j _ _ ps xs b b' _ ((hp0.keep hB2).keep (by (repeat (first | (with_reducible assumption) | (with_reducible exact Below.refl _ _) | ((with_reducible refine Below.alloc ?_ ?hsz _); (case hsz => (first | omega | (simp; done) | (simp; omega) | (simp at *; omega)))) | ((with_reducible refine Below.setCell ?_ ?hsz _); (case hsz => (first | omega | (simp; done) | (simp; omega) | (simp at *; omega)))) | (with_reducible refine Below.drew ?_) | (with_reducible refine below_drewN ?_ _) | ((with_reducible refine Below.trans ?_ (Below.mono (by with_reducible assumption) ?hsz)); (case hsz => (first | omega | (simp; done) | (simp; omega) | (simp at *; omega)))))))) ((hx0.keep hB2).keep (by (repeat (first | (with_reducible assumption) | (with_reducible exact Below.refl _ _) | ((with_reducible refine Below.alloc ?_ ?hsz _); (case hsz => (first | omega | (simp; done) | (simp; omega) | (simp at *; omega)))) | ((with_reducible refine Below.setCell ?_ ?hsz _); (case hsz => (first | omega | (simp; done) | (simp; omega) | (simp at *; omega)))) | (with_reducible refine Below.drew ?_) | (with_reducible refine below_drewN ?_ _) | ((with_reducible refine Below.trans ?_ (Below.mono (by with_reducible assumption) ?hsz)); (case hsz => (first | omega | (simp; done) | (simp; omega) | (simp at *; omega)))))))) hfl).mono ?_
  rintro e w3 ⟨rfl, hb3⟩
  rw [hfb]
  have bx3 := bx2.keep hb3
  have hB3 : Below w.heap.size w w3 := by (repeat (first | (with_reducible assumption) | (with_reducible exact Below.refl _ _) | ((with_reducible refine Below.alloc ?_ ?hsz _); (case hsz => (first | omega | (simp; done) | (simp; omega) | (simp at *; omega)))) | ((with_reducible refine Below.setCell ?_ ?hsz _); (case hsz => (first | omega | (simp; done) | (simp; omega) | (simp at *; omega)))) | (with_reducible refine Below.drew ?_) | (with_reducible refine below_drewN ?_ _) | ((with_reducible refine Below.trans ?_ (Below.mono (by with_reducible assumption) ?hsz)); (case hsz => (first | omega | (simp; done) | (simp; omega) | (simp at *; omega))))))
  clear bx2 hb3 d0 d1 bs hfb he
  obtain ⟨bs, d0, d1, -, -⟩ := id bx3
  go_wp2_with fail
  refine (excessOf_any j n _ _ ps xs b b' _ ((hp0.keep hB3).keep (by (repeat (first | (with_reducible assumption) | (with_reducible exact Below.refl _ _) | ((with_reducible refine Below.alloc ?_ ?hsz _); (case hsz => (first | omega | (simp; done) | (simp; omega) | (simp at *; omega)))) | ((with_reducible refine Below.setCell ?_ ?hsz _); (case hsz => (first | omega | (simp; done) | (simp; omega) | (simp at *; omega)))) | (with_reducible refine Below.drew ?_) | (with_reducible refine below_drewN ?_ _) | ((with_reducible refine Below.trans ?_ (Below.mono (by with_reducible assumption) ?hsz)); (case hsz => (first | omega | (simp; done) | (simp; omega) | (simp at *; omega)))))))) ((hx0.keep hB3).keep (by (repeat (first | (with_reducible assumption) | (with_reducible exact Below.refl _ _) | ((with_reducible refine Below.alloc ?_ ?hsz _); (case hsz => (first | omega | (simp; done) | (simp; omega) | (simp at *; omega)))) | ((with_reducible refine Below.setCell ?_ ?hsz _); (case hsz => (first | omega | (simp; done) | (simp; omega) | (simp at *; omega)))) | (with_reducible refine Below.drew ?_) | (with_reducible refine below_drewN ?_ _) | ((with_reducible refine Below.trans ?_ (Below.mono (by with_reducible assumption) ?hsz)); (case hsz => (first | omega | (simp; done) | (simp; omega) | (simp at *; omega)))))))) hfl).mono ?_
  rintro e w4 ⟨rfl, hb4⟩
  have bx4 := bx3.keep hb4
  have hB4 : Below w.heap.size w w4 := by (repeat (first | (with_reducible assumption) | (with_reducible exact Below.refl _ _) | ((with_reducible refine Below.alloc ?_ ?hsz _); (case hsz => (first | omega | (simp; done) | (simp; omega) | (simp at *; omega)))) | ((with_reducible refine Below.setCell ?_ ?hsz _); (case hsz => (first | omega | (simp; done) | (simp; omega) | (simp at *; omega)))) | (with_reducible refine Below.drew ?_) | (with_reducible refine below_drewN ?_ _) | ((with_reducible refine Below.trans ?_ (Below.mono (by with_reducible assumption) ?hsz)); (case hsz => (first | omega | (simp; done) | (simp; omega) | (simp at *; omega))))))
  clear bx3 hb4 d0 d1 bs hfl
  obtain ⟨lf0, hlf⟩ : ∃ l, exc j ps xs = l := ⟨_, rfl⟩
  have HLF := Lib.hid hlf
  rw [hlf] at Hyes ⊢
  clear hlf
  go_wp2
  go_loopw [1, 10, 11] (fun t1 t10 t11 wr => ∃ (f N k5 : Nat) (A5 : Option Addr) (Ls : List (List Int)) (ys : List Int) (bf : Nat) (fl : Value) (left : Int), t1 = fl ∧ Ints wr bf fl ys ∧ PartSt n ps ys i j left ∧ 0 ≤ left ∧ leftN2 ys left < f ∧ Ls.length + f ≤ 10 ∧ N = Ls.length ∧ t10 = .slice A5 N k5 ∧ OwnRowsV wr (w.heap.size + 1) (.slice A5 N k5) Ls ∧ Ls ++ partsP ps i j f left ys = partsR n ps xs i j ∧ t11 = .int .i64 left ∧ Box2 wr w.heap.size (.int .i64 n) (.slice A ps.length c) ∧ Below w.heap.size w wr) (fun _ t10 _ _ => 11 - sliceLen t10)
  case atStart => exact ⟨10, 0, 0, none, [], xs, b', _, lf0, rfl, hx0.keep hB4, by rw [← HLF.out]; exact HP.out.2.2.1, by rw [← HLF.out]; exact HP.out.2.2.2.1, by rw [← HLF.out]; exact HP.out.2.2.2.2.1, by simp, rfl, rfl, OwnRowsV.none_ _ _, by rw [Hyes.out]; rfl, rfl, bx4, hB4⟩
  case round =>
    clear hB1 hB2 hB3 bx4 hB4 hx0 hx
    obtain ⟨f, N, k5, A5, Ls, ys, bf, fl, left, rfl, hy, hst, hl0, hpf, hLf, hN, rfl, hO, hcat, rfl, bx, hB⟩ := hrel
    obtain ⟨AY, cY, rfl, hcy1, hcy2, -, -⟩ := hy.form
    unfold maxLen at hcy2
    have hyl := (flowOk_parts hst.flow).2.1
    have hyb := flow_getD hst.flow
    obtain ⟨f, rfl⟩ : ∃ f', f = f' + 1 := ⟨f - 1, by omega⟩
    have HY := Lib.hid (And.intro hst (And.intro hpf (And.intro hLf (And.intro hN (And.intro hcat (And.intro hyl hyb))))))
    have Hl0 := Lib.hid hl0
    rw [hyl] at hcy1 hy ⊢
    have hzb := hB.size
    obtain ⟨bs, d0, d1, -, -⟩ := id bx
    have hbw := bs
    clear hst hpf hLf hN hcat hyl hyb hl0
    by_cases hleft : 0 < left
    · have hld : decide (0 < left) = true := decide_eq_true hleft
      obtain ⟨sne, snd, sop, s6, sD0, sD40, sL0, sst, sM⟩ := HY.out.1.step hleft
      have hnx : ∀ v, (v = i ∨ ∃ k, k < ps.length ∧ (ps.getD k zeroPp).to = v ∧ 0 < ys.getD k 0) → v ≠ j → ∃ q, nextP ps ys v = some q := HY.out.1.next hleft
      have HNX := Lib.hid hnx
      clear hnx
      have HON := Lib.hid (parts_on (ps := ps) (a := i) (b := j) (xs := ys) (f := f) hleft)
      have sl1 := List.length_pos_iff.2 sne
      have hps : 0 < ps.length := by obtain ⟨q, hq⟩ := List.exists_mem_of_ne_nil _ sne; have := (sop q hq).1; omega
      have hlft : left ≤ 280 := by
        have h1 := exc_bd j ps ys (flowOk_parts HY.out.1.flow).2.2
        rw [HY.out.1.left] at h1
        have := HP.out.2.1
        omega
      have hDdef : (partD ps ys i j left = if 0 ≤ (walkP ps ys i j).2 then leastP ys (partP ps ys i j) else min (leastP ys (partP ps ys i j)) left) ∧ (partL ps ys i j left = if 0 ≤ (walkP ps ys i j).2 then left else left - partD ps ys i j left) := ⟨rfl, rfl⟩
      have hPdef : partP ps ys i j = (walkP ps ys i j).1.drop (walkP ps ys i j).2.toNat := rfl
      obtain ⟨PT, hPT⟩ : ∃ PT, partP ps ys i j = PT := ⟨_, rfl⟩
      obtain ⟨D, hD⟩ : ∃ D, partD ps ys i j left = D := ⟨_, rfl⟩
      obtain ⟨L2, hL2⟩ : ∃ L2, partL ps ys i j left = L2 := ⟨_, rfl⟩
      rw [hPT] at sne snd sop s6 sst sM sl1 hDdef hPdef HON
      rw [hD] at sD0 sD40 sst sM hDdef HON
      rw [hL2] at sL0 sst sM hDdef HON
      have HS := Lib.hid (And.intro snd (And.intro sop (And.intro sst (And.intro sM (And.intro hDdef sL0)))))
      clear sne snd sop sst sM hDdef hPT hD hL2 sL0
      go_wp2_with fail
      with_reducible refine (partFrom_any n i j _ _ ps ys b bf _ ((hp0.keep hB).keep (by (repeat (first | (with_reducible assumption) | (with_reducible exact Below.refl _ _) | ((with_reducible refine Below.alloc ?_ ?hsz _); (case hsz => (first | omega | (simp; done) | (simp; omega) | (simp at *; omega)))) | ((with_reducible refine Below.setCell ?_ ?hsz _); (case hsz => (first | omega | (simp; done) | (simp; omega) | (simp at *; omega)))) | (with_reducible refine Below.drew ?_) | (with_reducible refine below_drewN ?_ _) | ((with_reducible refine Below.trans ?_ (Below.mono (by with_reducible assumption) ?hsz)); (case hsz => (first | omega | (simp; done) | (simp; omega) | (simp at *; omega)))))))) (hy.keep (by (repeat (first | (with_reducible assumption) | (with_reducible exact Below.refl _ _) | ((with_reducible refine Below.alloc ?_ ?hsz _); (case hsz => (first | omega | (simp; done) | (simp; omega) | (simp at *; omega)))) | ((with_reducible refine Below.setCell ?_ ?hsz _); (case hsz => (first | omega | (simp; done) | (simp; omega) | (simp at *; omega)))) | (with_reducible refine Below.drew ?_) | (with_reducible refine below_drewN ?_ _) | ((with_reducible refine Below.trans ?_ (Below.mono (by with_reducible assumption) ?hsz)); (case hsz => (first | omega | (simp; done) | (simp; omega) | (simp at *; omega)))))))) HY.out.2.2.2.2.2.1 HP.out.1 i0 i1 hij HNX.out).mono ?_
      rintro e w5 ⟨r7, rfl, hL, hown7, hb5⟩
      rw [← hPdef] at hL
      have bx5 := bx.keep hb5
      have hy5 := hy.keep hb5
      have hO5 := hO.keep hb5
      have hB5 : Below w.heap.size w w5 := hB.trans (hb5.mono hzb)
      have hs5 := hb5.size
      have hz5 := hB5.size
      obtain ⟨vs1, -, u2, -, -⟩ := id hO
      have hlow : ∀ q, (Value.slice A5 N k5).ownBlock = some q → w.heap.size + 1 ≤ q ∧ q < wr.heap.size := fun q hq => u2.lt q hq
      have HLW := Lib.hid hlow
      have hml : (natsI PT).length = PT.length := by simp
      clear hb5 hy hO bx d0 d1 bs u2 hlow hPdef
      obtain ⟨bs, d0, d1, -, -⟩ := id bx5
      obtain ⟨g7, o7, c7, rfl, -⟩ := id hL
      rw [hml] at hL hown7 ⊢
      go_wp2_with fail
      with_reducible refine (leastIn_any _ _ PT ys bf _ hy5 hL (fun q hq => by have := (HS.out.2.1 q hq).1; rw [HY.out.2.2.2.2.2.1]; exact this) s6).mono ?_
      rintro e w6 ⟨rfl, hb6⟩
      have bx6 := bx5.keep hb6
      have hy6 := hy5.keep hb6
      have hO6 := hO5.keep hb6
      have hL6 := hL.keep hb6
      have hB6 : Below w.heap.size w w6 := hB5.trans (hb6.mono hz5)
      have hs6 := hb6.size
      have hz6 := hB6.size
      clear hb6 hy5 hO5 hL bx5 d0 d1 bs
      obtain ⟨bs, d0, d1, -, -⟩ := id bx6
      obtain ⟨cl, hcl⟩ : ∃ cl : Bool, decide (0 ≤ (walkP ps ys i j).2) = cl := ⟨_, rfl⟩
      have HCL := Lib.hid hcl
      rw [hcl]
      obtain ⟨lst, hlst⟩ : ∃ lst, leastP ys PT = lst := ⟨_, rfl⟩
      have hD1 : D = if cl = true then lst else min lst left := by
        have := HS.out.2.2.2.2.1.1
        rw [← hlst, this, ← hcl]
        simp only [decide_eq_true_eq]
      have hD2 : L2 = if cl = true then left else left - D := by
        have := HS.out.2.2.2.2.1.2
        rw [this, ← hcl]
        simp only [decide_eq_true_eq]
      rw [hlst]
      have hlb : lst ≤ 40 := by
        rw [← hlst]
        exact (leastF (xs := ys) PT 40).1
      have hlb0 : -1000 ≤ lst := by
        rcases cl with _ | _
        · simp at hD1; omega
        · simp at hD1; omega
      have HD := Lib.hid (And.intro hD1 hD2)
      clear hlst hcl hD1 hD2
      rcases cl with _ | _
      · by_cases hm : left < lst
        · have eD : D = left := by have := HD.out.1; simp at this; omega
          have eL : L2 = left - left := by have := HD.out.2; simp at this; omega
          have hmin : ¬ lst ≤ left := by omega
          subst eD
          go_wp2_with fail
          with_reducible refine (partRow_any _ _ (natsI PT) _ hL6 (by rw [hml]; exact Nat.succ_le_of_lt sl1) (by rw [hml]; exact s6)).mono ?_
          rintro e w7 ⟨rP, rfl, hI7, hb7⟩
          have bx7 := bx6.keep hb7
          have hy7 := hy6.keep hb7
          have hL7 := hL6.keep hb7
          have hB7 : Below w.heap.size w w7 := hB6.trans (hb7.mono hz6)
          have hs7 := hb7.size
          have hz7 := hB7.size
          obtain ⟨vs, v1, v2, v3, v4, v5⟩ := id hO6
          have VAP := Lib.hid (v5.snoc (B := w6.heap.size) (fun i h q hq => ((v4 i (by omega) h).1.lt q hq).2) (fun q hq => (hI7.1.lt q hq).1))
          replace v2 := own_keep v2 (Nat.le_refl _) hb7
          replace v4 : ∀ k (h : k < Ls.length) (h' : k < vs.length), Ints w7 (w.heap.size + 1) vs[k] Ls[k] := fun k hk hk' => (v4 k hk hk').keep hb7
          clear v5
          obtain ⟨A6, c6, rfl, -, -, -, -⟩ := hI7.form
          obtain ⟨M6, hM6⟩ : ∃ M6, (D :: natsI PT).length = M6 := ⟨_, rfl⟩
          rw [hM6] at hI7 VAP ⊢
          have V4 := Lib.hid v4
          have V1 := Lib.hid v1
          have hN := HY.out.2.2.2.1
          have hLf := HY.out.2.2.1
          rw [← hN] at v2 v3 hLf
          have hrow : ∀ q', (Value.slice A5 N k5).ownBlock = some q' → w.heap.size + 1 ≤ q' := fun q' hq => (v2.lt q' hq).1
          clear hM6 hb7 hy6 hO6 hL6 bx6 d0 d1 bs v4 v1 hN
          go_wp2_with (first
            | (at_builtin
               go_must (refine wpList_append_lies _ rfl _ _ 28 rfl (w.heap.size + 1) 30 iS _ 1 24 Tryz.underlying28 hiS hS0 hS1 hS2 rfl (by omega) (.slice A5 N k5) N vs rfl (v2.alloc _) ⟨w7.heap.size, 0, none⟩ 1 1 [.slice A6 M6 c6] rfl rfl (World.news_of_block (cs := #[.slice A6 M6 c6]) (t := 30) (fr := (0, 0)) (heap_alloc_new _ _)) (by simp [Value.oneCell']) (by omega) (by unfold maxLen; omega) (by omega) (by simp; omega) _ rfl ?_)
               intro g5 k6 w8 hown8 hgr8 hat8 hlt8))
          have v2a := v2.alloc (.cells #[.slice A6 M6 c6] 30)
          have hB8 : Below w.heap.size w7 w8 := Below.grown (w := w7.alloc (.cells #[.slice A6 M6 c6] 30)) (by (repeat (first | (with_reducible assumption) | (with_reducible exact Below.refl _ _) | ((with_reducible refine Below.alloc ?_ ?hsz _); (case hsz => (first | omega | (simp; done) | (simp; omega) | (simp at *; omega)))) | ((with_reducible refine Below.setCell ?_ ?hsz _); (case hsz => (first | omega | (simp; done) | (simp; omega) | (simp at *; omega)))) | (with_reducible refine Below.drew ?_) | (with_reducible refine below_drewN ?_ _) | ((with_reducible refine Below.trans ?_ (Below.mono (by with_reducible assumption) ?hsz)); (case hsz => (first | omega | (simp; done) | (simp; omega) | (simp at *; omega))))))) hgr8 (by (first | omega | (simp; done) | (simp; omega) | (simp at *; omega))) (fun q hq => by have := hrow q hq; omega)
          have hBw8 : Below w.heap.size w w8 := hB7.trans hB8
          have bx8 := (bx7.keep (w' := w7.alloc (.cells #[.slice A6 M6 c6] 30)) (by (repeat (first | (with_reducible assumption) | (with_reducible exact Below.refl _ _) | ((with_reducible refine Below.alloc ?_ ?hsz _); (case hsz => (first | omega | (simp; done) | (simp; omega) | (simp at *; omega)))) | ((with_reducible refine Below.setCell ?_ ?hsz _); (case hsz => (first | omega | (simp; done) | (simp; omega) | (simp at *; omega)))) | (with_reducible refine Below.drew ?_) | (with_reducible refine below_drewN ?_ _) | ((with_reducible refine Below.trans ?_ (Below.mono (by with_reducible assumption) ?hsz)); (case hsz => (first | omega | (simp; done) | (simp; omega) | (simp at *; omega)))))))).grown hgr8 (fun e => by have := hrow _ e.symm; omega)
          have hy8 := (hy7.alloc1 (.cells #[.slice A6 M6 c6] 30)).otherV v2a hgr8
          have hI8' := (hI7.mono (b' := w.heap.size + 1) (by omega)).alloc1 (.cells #[.slice A6 M6 c6] 30)
          have hN := HY.out.2.2.2.1
          have hO8 : OwnRowsV w8 (w.heap.size + 1) (.slice (some ⟨g5, 0, none⟩) (Ls.length + 1) k6) (Ls ++ [D :: natsI PT]) := rows_snocV V1.out (by rw [← hN]; exact v2a) (fun k hk hk' => (V4.out k hk hk').alloc1 _) hI8' VAP.out (by unfold small; omega) hgr8 (by rw [← hN]; exact hown8)
          have hL8 := (hL7.keep (w' := w7.alloc (.cells #[.slice A6 M6 c6] 30)) (by (repeat (first | (with_reducible assumption) | (with_reducible exact Below.refl _ _) | ((with_reducible refine Below.alloc ?_ ?hsz _); (case hsz => (first | omega | (simp; done) | (simp; omega) | (simp at *; omega)))) | ((with_reducible refine Below.setCell ?_ ?hsz _); (case hsz => (first | omega | (simp; done) | (simp; omega) | (simp at *; omega)))) | (with_reducible refine Below.drew ?_) | (with_reducible refine below_drewN ?_ _) | ((with_reducible refine Below.trans ?_ (Below.mono (by with_reducible assumption) ?hsz)); (case hsz => (first | omega | (simp; done) | (simp; omega) | (simp at *; omega)))))))).far hgr8 (fun q hq e => by have h1 := hown7 q hq; have h2 := (HLW.out q e.symm).2; omega)
          rw [← hN] at hO8
          clear hown8 hgr8 hat8 v2a hI8' hL7 hI7 hy7 hN bx7
          obtain ⟨bs, d0, d1, -, -⟩ := id bx8
          go_wp2_with fail
          with_reducible refine (takenOut_any D _ _ PT ys bf _ hy8 hL8 (fun q hq => by have := (HS.out.2.1 q hq).1; rw [HY.out.2.2.2.2.2.1]; exact this) s6 HS.out.1 HY.out.2.2.2.2.2.2 (by omega) (by rw [HY.out.2.2.2.2.2.1]; omega)).mono ?_
          rintro e w9 ⟨r8, rfl, hr9, hb9⟩
          have bx9 := bx8.keep hb9
          have hO9 := hO8.keep hb9
          have hBw9 : Below w.heap.size w w9 := hBw8.trans (hb9.mono hBw8.size)
          have hN := HY.out.2.2.2.1
          have hfin : (Ls ++ [D :: natsI PT]) ++ partsP ps i j f L2 (lessP D ys PT) = partsR n ps xs i j := by
            rw [← HY.out.2.2.2.2.1, HON.out, List.append_assoc]
            simp
          have hM9 : leftN2 (lessP D ys PT) L2 < f := by
            have h1 := HS.out.2.2.2.1
            have h2 := HY.out.2.1
            omega
          have HNN := Lib.hid hN
          have HF := Lib.hid (And.intro hfin (And.intro hM9 eL))
          clear hO8 hb9 hN bx8 d0 d1 bs hfin hM9 eL
          obtain ⟨bs, d0, d1, -, -⟩ := id bx9
          go_wp2
          go_roundw
          case rel => exact ⟨f, N + 1, k6, some ⟨g5, 0, none⟩, Ls ++ [D :: natsI PT], lessP D ys PT, _, _, L2, rfl, hr9, HS.out.2.2.1, HS.out.2.2.2.2.2, HF.out.2.1, by have hN := HNN.out; rw [List.length_append, ← hN]; simp; omega, by rw [List.length_append, ← HNN.out]; rfl, rfl, hO9, HF.out.1, by (first | (rw [HF.out.2.2]; done) | (rw [HF.out.2.2]; simp)), bx9, hBw9⟩
          case measure => simp [sliceLen]; omega
        · have eD : lst = D := by have := HD.out.1; simp at this; omega
          subst eD
          have eL : L2 = left - lst := by have := HD.out.2; simp at this; omega
          have hmin : lst ≤ left := by omega
          go_wp2_with fail
          with_reducible refine (partRow_any _ _ (natsI PT) _ hL6 (by rw [hml]; exact Nat.succ_le_of_lt sl1) (by rw [hml]; exact s6)).mono ?_
          rintro e w7 ⟨rP, rfl, hI7, hb7⟩
          have bx7 := bx6.keep hb7
          have hy7 := hy6.keep hb7
          have hL7 := hL6.keep hb7
          have hB7 : Below w.heap.size w w7 := hB6.trans (hb7.mono hz6)
          have hs7 := hb7.size
          have hz7 := hB7.size
          obtain ⟨vs, v1, v2, v3, v4, v5⟩ := id hO6
          have VAP := Lib.hid (v5.snoc (B := w6.heap.size) (fun i h q hq => ((v4 i (by omega) h).1.lt q hq).2) (fun q hq => (hI7.1.lt q hq).1))
          replace v2 := own_keep v2 (Nat.le_refl _) hb7
          replace v4 : ∀ k (h : k < Ls.length) (h' : k < vs.length), Ints w7 (w.heap.size + 1) vs[k] Ls[k] := fun k hk hk' => (v4 k hk hk').keep hb7
          clear v5
          obtain ⟨A6, c6, rfl, -, -, -, -⟩ := hI7.form
          obtain ⟨M6, hM6⟩ : ∃ M6, (lst :: natsI PT).length = M6 := ⟨_, rfl⟩
          rw [hM6] at hI7 VAP ⊢
          have V4 := Lib.hid v4
          have V1 := Lib.hid v1
          have hN := HY.out.2.2.2.1
          have hLf := HY.out.2.2.1
          rw [← hN] at v2 v3 hLf
          have hrow : ∀ q', (Value.slice A5 N k5).ownBlock = some q' → w.heap.size + 1 ≤ q' := fun q' hq => (v2.lt q' hq).1
          clear hM6 hb7 hy6 hO6 hL6 bx6 d0 d1 bs v4 v1 hN
          go_wp2_with (first
            | (at_builtin
               go_must (refine wpList_append_lies _ rfl _ _ 28 rfl (w.heap.size + 1) 30 iS _ 1 24 Tryz.underlying28 hiS hS0 hS1 hS2 rfl (by omega) (.slice A5 N k5) N vs rfl (v2.alloc _) ⟨w7.heap.size, 0, none⟩ 1 1 [.slice A6 M6 c6] rfl rfl (World.news_of_block (cs := #[.slice A6 M6 c6]) (t := 30) (fr := (0, 0)) (heap_alloc_new _ _)) (by simp [Value.oneCell']) (by omega) (by unfold maxLen; omega) (by omega) (by simp; omega) _ rfl ?_)
               intro g5 k6 w8 hown8 hgr8 hat8 hlt8))
          have v2a := v2.alloc (.cells #[.slice A6 M6 c6] 30)
          have hB8 : Below w.heap.size w7 w8 := Below.grown (w := w7.alloc (.cells #[.slice A6 M6 c6] 30)) (by (repeat (first | (with_reducible assumption) | (with_reducible exact Below.refl _ _) | ((with_reducible refine Below.alloc ?_ ?hsz _); (case hsz => (first | omega | (simp; done) | (simp; omega) | (simp at *; omega)))) | ((with_reducible refine Below.setCell ?_ ?hsz _); (case hsz => (first | omega | (simp; done) | (simp; omega) | (simp at *; omega)))) | (with_reducible refine Below.drew ?_) | (with_reducible refine below_drewN ?_ _) | ((with_reducible refine Below.trans ?_ (Below.mono (by with_reducible assumption) ?hsz)); (case hsz => (first | omega | (simp; done) | (simp; omega) | (simp at *; omega))))))) hgr8 (by (first | omega | (simp; done) | (simp; omega) | (simp at *; omega))) (fun q hq => by have := hrow q hq; omega)
          have hBw8 : Below w.heap.size w w8 := hB7.trans hB8
          have bx8 := (bx7.keep (w' := w7.alloc (.cells #[.slice A6 M6 c6] 30)) (by (repeat (first | (with_reducible assumption) | (with_reducible exact Below.refl _ _) | ((with_reducible refine Below.alloc ?_ ?hsz _); (case hsz => (first | omega | (simp; done) | (simp; omega) | (simp at *; omega)))) | ((with_reducible refine Below.setCell ?_ ?hsz _); (case hsz => (first | omega | (simp; done) | (simp; omega) | (simp at *; omega)))) | (with_reducible refine Below.drew ?_) | (with_reducible refine below_drewN ?_ _) | ((with_reducible refine Below.trans ?_ (Below.mono (by with_reducible assumption) ?hsz)); (case hsz => (first | omega | (simp; done) | (simp; omega) | (simp at *; omega)))))))).grown hgr8 (fun e => by have := hrow _ e.symm; omega)
          have hy8 := (hy7.alloc1 (.cells #[.slice A6 M6 c6] 30)).otherV v2a hgr8
          have hI8' := (hI7.mono (b' := w.heap.size + 1) (by omega)).alloc1 (.cells #[.slice A6 M6 c6] 30)
          have hN := HY.out.2.2.2.1
          have hO8 : OwnRowsV w8 (w.heap.size + 1) (.slice (some ⟨g5, 0, none⟩) (Ls.length + 1) k6) (Ls ++ [lst :: natsI PT]) := rows_snocV V1.out (by rw [← hN]; exact v2a) (fun k hk hk' => (V4.out k hk hk').alloc1 _) hI8' VAP.out (by unfold small; omega) hgr8 (by rw [← hN]; exact hown8)
          have hL8 := (hL7.keep (w' := w7.alloc (.cells #[.slice A6 M6 c6] 30)) (by (repeat (first | (with_reducible assumption) | (with_reducible exact Below.refl _ _) | ((with_reducible refine Below.alloc ?_ ?hsz _); (case hsz => (first | omega | (simp; done) | (simp; omega) | (simp at *; omega)))) | ((with_reducible refine Below.setCell ?_ ?hsz _); (case hsz => (first | omega | (simp; done) | (simp; omega) | (simp at *; omega)))) | (with_reducible refine Below.drew ?_) | (with_reducible refine below_drewN ?_ _) | ((with_reducible refine Below.trans ?_ (Below.mono (by with_reducible assumption) ?hsz)); (case hsz => (first | omega | (simp; done) | (simp; omega) | (simp at *; omega)))))))).far hgr8 (fun q hq e => by have h1 := hown7 q hq; have h2 := (HLW.out q e.symm).2; omega)
          rw [← hN] at hO8
          clear hown8 hgr8 hat8 v2a hI8' hL7 hI7 hy7 hN bx7
          obtain ⟨bs, d0, d1, -, -⟩ := id bx8
          go_wp2_with fail
          with_reducible refine (takenOut_any lst _ _ PT ys bf _ hy8 hL8 (fun q hq => by have := (HS.out.2.1 q hq).1; rw [HY.out.2.2.2.2.2.1]; exact this) s6 HS.out.1 HY.out.2.2.2.2.2.2 (by omega) (by rw [HY.out.2.2.2.2.2.1]; omega)).mono ?_
          rintro e w9 ⟨r8, rfl, hr9, hb9⟩
          have bx9 := bx8.keep hb9
          have hO9 := hO8.keep hb9
          have hBw9 : Below w.heap.size w w9 := hBw8.trans (hb9.mono hBw8.size)
          have hN := HY.out.2.2.2.1
          have hfin : (Ls ++ [lst :: natsI PT]) ++ partsP ps i j f L2 (lessP lst ys PT) = partsR n ps xs i j := by
            rw [← HY.out.2.2.2.2.1, HON.out, List.append_assoc]
            simp
          have hM9 : leftN2 (lessP lst ys PT) L2 < f := by
            have h1 := HS.out.2.2.2.1
            have h2 := HY.out.2.1
            omega
          have HNN := Lib.hid hN
          have HF := Lib.hid (And.intro hfin (And.intro hM9 eL))
          clear hO8 hb9 hN bx8 d0 d1 bs hfin hM9 eL
          obtain ⟨bs, d0, d1, -, -⟩ := id bx9
          go_wp2
          go_roundw
          case rel => exact ⟨f, N + 1, k6, some ⟨g5, 0, none⟩, Ls ++ [lst :: natsI PT], lessP lst ys PT, _, _, L2, rfl, hr9, HS.out.2.2.1, HS.out.2.2.2.2.2, HF.out.2.1, by have hN := HNN.out; rw [List.length_append, ← hN]; simp; omega, by rw [List.length_append, ← HNN.out]; rfl, rfl, hO9, HF.out.1, by (first | (rw [HF.out.2.2]; done) | (rw [HF.out.2.2]; simp)), bx9, hBw9⟩
          case measure => simp [sliceLen]; omega
      · have eD : lst = D := by have := HD.out.1; simp at this; omega
        subst eD
        have eL : L2 = left := by have := HD.out.2; simpa using this
        go_wp2_with fail
        with_reducible refine (partRow_any _ _ (natsI PT) _ hL6 (by rw [hml]; exact Nat.succ_le_of_lt sl1) (by rw [hml]; exact s6)).mono ?_
        rintro e w7 ⟨rP, rfl, hI7, hb7⟩
        have bx7 := bx6.keep hb7
        have hy7 := hy6.keep hb7
        have hL7 := hL6.keep hb7
        have hB7 : Below w.heap.size w w7 := hB6.trans (hb7.mono hz6)
        have hs7 := hb7.size
        have hz7 := hB7.size
        obtain ⟨vs, v1, v2, v3, v4, v5⟩ := id hO6
        have VAP := Lib.hid (v5.snoc (B := w6.heap.size) (fun i h q hq => ((v4 i (by omega) h).1.lt q hq).2) (fun q hq => (hI7.1.lt q hq).1))
        replace v2 := own_keep v2 (Nat.le_refl _) hb7
        replace v4 : ∀ k (h : k < Ls.length) (h' : k < vs.length), Ints w7 (w.heap.size + 1) vs[k] Ls[k] := fun k hk hk' => (v4 k hk hk').keep hb7
        clear v5
        obtain ⟨A6, c6, rfl, -, -, -, -⟩ := hI7.form
        obtain ⟨M6, hM6⟩ : ∃ M6, (lst :: natsI PT).length = M6 := ⟨_, rfl⟩
        rw [hM6] at hI7 VAP ⊢
        have V4 := Lib.hid v4
        have V1 := Lib.hid v1
        have hN := HY.out.2.2.2.1
        have hLf := HY.out.2.2.1
        rw [← hN] at v2 v3 hLf
        have hrow : ∀ q', (Value.slice A5 N k5).ownBlock = some q' → w.heap.size + 1 ≤ q' := fun q' hq => (v2.lt q' hq).1
        clear hM6 hb7 hy6 hO6 hL6 bx6 d0 d1 bs v4 v1 hN
        go_wp2_with (first
          | (at_builtin
             go_must (refine wpList_append_lies _ rfl _ _ 28 rfl (w.heap.size + 1) 30 iS _ 1 24 Tryz.underlying28 hiS hS0 hS1 hS2 rfl (by omega) (.slice A5 N k5) N vs rfl (v2.alloc _) ⟨w7.heap.size, 0, none⟩ 1 1 [.slice A6 M6 c6] rfl rfl (World.news_of_block (cs := #[.slice A6 M6 c6]) (t := 30) (fr := (0, 0)) (heap_alloc_new _ _)) (by simp [Value.oneCell']) (by omega) (by unfold maxLen; omega) (by omega) (by simp; omega) _ rfl ?_)
             intro g5 k6 w8 hown8 hgr8 hat8 hlt8))
        have v2a := v2.alloc (.cells #[.slice A6 M6 c6] 30)
        have hB8 : Below w.heap.size w7 w8 := Below.grown (w := w7.alloc (.cells #[.slice A6 M6 c6] 30)) (by (repeat (first | (with_reducible assumption) | (with_reducible exact Below.refl _ _) | ((with_reducible refine Below.alloc ?_ ?hsz _); (case hsz => (first | omega | (simp; done) | (simp; omega) | (simp at *; omega)))) | ((with_reducible refine Below.setCell ?_ ?hsz _); (case hsz => (first | omega | (simp; done) | (simp; omega) | (simp at *; omega)))) | (with_reducible refine Below.drew ?_) | (with_reducible refine below_drewN ?_ _) | ((with_reducible refine Below.trans ?_ (Below.mono (by with_reducible assumption) ?hsz)); (case hsz => (first | omega | (simp; done) | (simp; omega) | (simp at *; omega))))))) hgr8 (by (first | omega | (simp; done) | (simp; omega) | (simp at *; omega))) (fun q hq => by have := hrow q hq; omega)
        have hBw8 : Below w.heap.size w w8 := hB7.trans hB8
        have bx8 := (bx7.keep (w' := w7.alloc (.cells #[.slice A6 M6 c6] 30)) (by (repeat (first | (with_reducible assumption) | (with_reducible exact Below.refl _ _) | ((with_reducible refine Below.alloc ?_ ?hsz _); (case hsz => (first | omega | (simp; done) | (simp; omega) | (simp at *; omega)))) | ((with_reducible refine Below.setCell ?_ ?hsz _); (case hsz => (first | omega | (simp; done) | (simp; omega) | (simp at *; omega)))) | (with_reducible refine Below.drew ?_) | (with_reducible refine below_drewN ?_ _) | ((with_reducible refine Below.trans ?_ (Below.mono (by with_reducible assumption) ?hsz)); (case hsz => (first | omega | (simp; done) | (simp; omega) | (simp at *; omega)))))))).grown hgr8 (fun e => by have := hrow _ e.symm; omega)
        have hy8 := (hy7.alloc1 (.cells #[.slice A6 M6 c6] 30)).otherV v2a hgr8
        have hI8' := (hI7.mono (b' := w.heap.size + 1) (by omega)).alloc1 (.cells #[.slice A6 M6 c6] 30)
        have hN := HY.out.2.2.2.1
        have hO8 : OwnRowsV w8 (w.heap.size + 1) (.slice (some ⟨g5, 0, none⟩) (Ls.length + 1) k6) (Ls ++ [lst :: natsI PT]) := rows_snocV V1.out (by rw [← hN]; exact v2a) (fun k hk hk' => (V4.out k hk hk').alloc1 _) hI8' VAP.out (by unfold small; omega) hgr8 (by rw [← hN]; exact hown8)
        have hL8 := (hL7.keep (w' := w7.alloc (.cells #[.slice A6 M6 c6] 30)) (by (repeat (first | (with_reducible assumption) | (with_reducible exact Below.refl _ _) | ((with_reducible refine Below.alloc ?_ ?hsz _); (case hsz => (first | omega | (simp; done) | (simp; omega) | (simp at *; omega)))) | ((with_reducible refine Below.setCell ?_ ?hsz _); (case hsz => (first | omega | (simp; done) | (simp; omega) | (simp at *; omega)))) | (with_reducible refine Below.drew ?_) | (with_reducible refine below_drewN ?_ _) | ((with_reducible refine Below.trans ?_ (Below.mono (by with_reducible assumption) ?hsz)); (case hsz => (first | omega | (simp; done) | (simp; omega) | (simp at *; omega)))))))).far hgr8 (fun q hq e => by have h1 := hown7 q hq; have h2 := (HLW.out q e.symm).2; omega)
        rw [← hN] at hO8
        clear hown8 hgr8 hat8 v2a hI8' hL7 hI7 hy7 hN bx7
        obtain ⟨bs, d0, d1, -, -⟩ := id bx8
        go_wp2_with fail
        with_reducible refine (takenOut_any lst _ _ PT ys bf _ hy8 hL8 (fun q hq => by have := (HS.out.2.1 q hq).1; rw [HY.out.2.2.2.2.2.1]; exact this) s6 HS.out.1 HY.out.2.2.2.2.2.2 (by omega) (by rw [HY.out.2.2.2.2.2.1]; omega)).mono ?_
        rintro e w9 ⟨r8, rfl, hr9, hb9⟩
        have bx9 := bx8.keep hb9
        have hO9 := hO8.keep hb9
        have hBw9 : Below w.heap.size w w9 := hBw8.trans (hb9.mono hBw8.size)
        have hN := HY.out.2.2.2.1
        have hfin : (Ls ++ [lst :: natsI PT]) ++ partsP ps i j f L2 (lessP lst ys PT) = partsR n ps xs i j := by
          rw [← HY.out.2.2.2.2.1, HON.out, List.append_assoc]
          simp
        have hM9 : leftN2 (lessP lst ys PT) L2 < f := by
          have h1 := HS.out.2.2.2.1
          have h2 := HY.out.2.1
          omega
        have HNN := Lib.hid hN
        have HF := Lib.hid (And.intro hfin (And.intro hM9 eL))
        clear hO8 hb9 hN bx8 d0 d1 bs hfin hM9 eL
        obtain ⟨bs, d0, d1, -, -⟩ := id bx9
        go_wp2
        go_roundw
        case rel => exact ⟨f, N + 1, k6, some ⟨g5, 0, none⟩, Ls ++ [lst :: natsI PT], lessP lst ys PT, _, _, L2, rfl, hr9, HS.out.2.2.1, HS.out.2.2.2.2.2, HF.out.2.1, by have hN := HNN.out; rw [List.length_append, ← hN]; simp; omega, by rw [List.length_append, ← HNN.out]; rfl, rfl, hO9, HF.out.1, by (first | (rw [HF.out.2.2]; done) | (rw [HF.out.2.2]; simp)), bx9, hBw9⟩
        case measure => simp [sliceLen]; omega
    · have hld : decide (0 < left) = false := decide_eq_false hleft
      have hbal := HY.out.1.done hleft Hl0.out
      have HOFF := Lib.hid (parts_off (ps := ps) (a := i) (b := j) (xs := ys) (f := f) hleft)
      go_wp2_with fail
      with_reducible refine (ringsOf_any n _ _ ps ys b bf _ ((hp0.keep hB).keep (by (repeat (first | (with_reducible assumption) | (with_reducible exact Below.refl _ _) | ((with_reducible refine Below.alloc ?_ ?hsz _); (case hsz => (first | omega | (simp; done) | (simp; omega) | (simp at *; omega)))) | ((with_reducible refine Below.setCell ?_ ?hsz _); (case hsz => (first | omega | (simp; done) | (simp; omega) | (simp at *; omega)))) | (with_reducible refine Below.drew ?_) | (with_reducible refine below_drewN ?_ _) | ((with_reducible refine Below.trans ?_ (Below.mono (by with_reducible assumption) ?hsz)); (case hsz => (first | omega | (simp; done) | (simp; omega) | (simp at *; omega)))))))) (hy.keep (by (repeat (first | (with_reducible assumption) | (with_reducible exact Below.refl _ _) | ((with_reducible refine Below.alloc ?_ ?hsz _); (case hsz => (first | omega | (simp; done) | (simp; omega) | (simp at *; omega)))) | ((with_reducible refine Below.setCell ?_ ?hsz _); (case hsz => (first | omega | (simp; done) | (simp; omega) | (simp at *; omega)))) | (with_reducible refine Below.drew ?_) | (with_reducible refine below_drewN ?_ _) | ((with_reducible refine Below.trans ?_ (Below.mono (by with_reducible assumption) ?hsz)); (case hsz => (first | omega | (simp; done) | (simp; omega) | (simp at *; omega)))))))) hbal).mono ?_
      rintro e w5 ⟨A6, k6, rfl, hR, hb5⟩
      have hO5 := hO
      obtain ⟨vs, v1, v2, v3, v4, v5⟩ := hO
      obtain ⟨us, u1, u2, u3, u4, u5⟩ := hR
      have hap : Apart (vs ++ us) := v5.app (B := wr.heap.size) u5 (fun i h q hq => ((v4 i (by omega) h).1.lt q hq).2) (fun i h q hq => ((u4 i (by omega) h).1.lt q hq).1)
      have hN := HY.out.2.2.2.1
      have hLf := HY.out.2.2.1
      have hrf := rings_few8 (ps := ps) 8 ys
      have v2' := own_keep v2 (Nat.le_refl _) hb5
      have v4' : ∀ k (h : k < Ls.length) (h' : k < vs.length), Ints w5 (w.heap.size + 1) vs[k] Ls[k] := fun k hk hk' => (v4 k hk hk').keep hb5
      have u4' : ∀ k (h : k < (ringsL ps ys).length) (h' : k < us.length), Ints w5 (w.heap.size + 1) us[k] (ringsL ps ys)[k] := fun k hk hk' => (u4 k hk hk').mono (by omega)
      have hsrc := rows_src u2 u1 u4
      have hB5 : Below w.heap.size w w5 := hB.trans (hb5.mono hzb)
      have hz5 := hB5.size
      have hs5 := hb5.size
      have hfew : (ringsL ps ys).length ≤ 8 := hrf
      obtain ⟨M, hM⟩ : ∃ M, (ringsL ps ys).length = M := ⟨_, rfl⟩
      rw [← hN] at v2'
      rw [hM] at hsrc hfew ⊢
      have HE := Lib.hid (And.intro v1 (And.intro u1 (And.intro v4' (And.intro u4' (And.intro hap hM)))))
      have hrow : ∀ q', (Value.slice A5 N k5).ownBlock = some q' → w.heap.size + 1 ≤ q' := fun q' hq => (v2'.lt q' hq).1
      clear v1 u1 v4' u4' hap hM v2 v3 v4 v5 u2 u3 u4 u5 hrf hN hbal
      go_wp2_with (first
        | (at_builtin
           go_must (refine wpList_append_src rfl _ _ 28 rfl (w.heap.size + 1) 30 iS _ 1 24 Tryz.underlying28 hiS hS0 hS1 hS2 rfl (by omega) _ _ N M vs us rfl rfl v2' hsrc (by unfold maxLen; have := HY.out.2.2.2.1; omega) (by have := HY.out.2.2.2.1; omega) (by omega) ?_)
           intro r w7 hown7 hgr7 hat7))
      have hN := HY.out.2.2.2.1
      rw [hN, ← HE.out.2.2.2.2.2] at hown7
      have hfin : OwnRowsV w7 (w.heap.size + 1) r (Ls ++ ringsL ps ys) := rows_appV HE.out.1 HE.out.2.1 (by rw [← hN]; exact v2') HE.out.2.2.1 HE.out.2.2.2.1 HE.out.2.2.2.2.1 (by have := HE.out.2.2.2.2.2; unfold small; omega) hgr7 hown7
      have hB7 : Below w.heap.size w w7 := Below.grown hB5 hgr7 hz5 (fun q hq => by have := hrow q hq; omega)
      have Hcat := Lib.hid (show Ls ++ ringsL ps ys = partsR n ps xs i j by rw [← HY.out.2.2.2.2.1, HOFF.out])
      clear hown7 hgr7 hat7
      go_ret2
      exact ⟨_, rfl, by rw [← Hcat.out]; exact hfin.mono (by omega), hB7⟩

set_option maxHeartbeats 1000000 in
set_option maxRecDepth 20000 in
theorem partsTop_any (n i j : Int) (v u : Value) (ps : List Pp) (xs : List Int) (b b' : Nat) (w : World) (hp : Pipes w b v ps) (hx : Ints w b' u xs) :
    Calls Tryz.prog 29 #[.agg #[.int .i64 n, v], u, .int .i64 i, .int .i64 j] w fun e w' => ∃ r, e = .returned (.tuple #[r, .bool (partsOkB n ps xs i j)]) ∧ OwnRowsV w' w.heap.size r (partsR n ps xs i j) ∧ Below w.heap.size w w' := by
  by_cases hok : partsOkB n ps xs i j = true
  · rw [hok]; exact partsIn_any n i j v u ps xs b b' w hp hx hok
  · have hok' : partsOkB n ps xs i j = false := by simpa using hok
    have Hno := Lib.hid (parts_no hok')
    have Hf := Lib.hid hok'
    have hp0 := hp
    have hx0 := hx
    obtain ⟨A, c, rfl, -, -, -, -⟩ := hp.form
    obtain ⟨A0, c0, rfl, -, -, -, -⟩ := hx.form
    have bx0 := Box2.new w (.int .i64 n) (.slice A ps.length c) 25
    clear hok
    go_enter Tryz.func29, Tryz.ntmps29
    go_wp2_with fail
    refine (flowOk_any n _ _ ps xs b b' _ (hp0.keep (by (repeat (first | (with_reducible assumption) | (with_reducible exact Below.refl _ _) | ((with_reducible refine Below.alloc ?_ ?hsz _); (case hsz => (first | omega | (simp; done) | (simp; omega) | (simp at *; omega)))) | ((with_reducible refine Below.setCell ?_ ?hsz _); (case hsz => (first | omega | (simp; done) | (simp; omega) | (simp at *; omega)))) | (with_reducible refine Below.drew ?_) | (with_reducible refine below_drewN ?_ _) | ((with_reducible refine Below.trans ?_ (Below.mono (by with_reducible assumption) ?hsz)); (case hsz => (first | omega | (simp; done) | (simp; omega) | (simp at *; omega)))))))) (hx0.keep (by (repeat (first | (with_reducible assumption) | (with_reducible exact Below.refl _ _) | ((with_reducible refine Below.alloc ?_ ?hsz _); (case hsz => (first | omega | (simp; done) | (simp; omega) | (simp at *; omega)))) | ((with_reducible refine Below.setCell ?_ ?hsz _); (case hsz => (first | omega | (simp; done) | (simp; omega) | (simp at *; omega)))) | (with_reducible refine Below.drew ?_) | (with_reducible refine below_drewN ?_ _) | ((with_reducible refine Below.trans ?_ (Below.mono (by with_reducible assumption) ?hsz)); (case hsz => (first | omega | (simp; done) | (simp; omega) | (simp at *; omega))))))))).mono ?_
    rintro e w1 ⟨rfl, hb1⟩
    have bx1 := bx0.keep hb1
    have hB1 : Below w.heap.size w w1 := by (repeat (first | (with_reducible assumption) | (with_reducible exact Below.refl _ _) | ((with_reducible refine Below.alloc ?_ ?hsz _); (case hsz => (first | omega | (simp; done) | (simp; omega) | (simp at *; omega)))) | ((with_reducible refine Below.setCell ?_ ?hsz _); (case hsz => (first | omega | (simp; done) | (simp; omega) | (simp at *; omega)))) | (with_reducible refine Below.drew ?_) | (with_reducible refine below_drewN ?_ _) | ((with_reducible refine Below.trans ?_ (Below.mono (by with_reducible assumption) ?hsz)); (case hsz => (first | omega | (simp; done) | (simp; omega) | (simp at *; omega))))))
    clear bx0 hb1
    obtain ⟨bs, d0, d1, -, -⟩ := id bx1
    by_cases hfl : flowOkB n ps xs = true
    · rw [hfl]
      go_wp2_with fail
      refine (endsOk_any n i j _ ps b _ ((hp0.keep hB1).keep (by (repeat (first | (with_reducible assumption) | (with_reducible exact Below.refl _ _) | ((with_reducible refine Below.alloc ?_ ?hsz _); (case hsz => (first | omega | (simp; done) | (simp; omega) | (simp at *; omega)))) | ((with_reducible refine Below.setCell ?_ ?hsz _); (case hsz => (first | omega | (simp; done) | (simp; omega) | (simp at *; omega)))) | (with_reducible refine Below.drew ?_) | (with_reducible refine below_drewN ?_ _) | ((with_reducible refine Below.trans ?_ (Below.mono (by with_reducible assumption) ?hsz)); (case hsz => (first | omega | (simp; done) | (simp; omega) | (simp at *; omega))))))))).mono ?_
      rintro e w2 ⟨rfl, hb2⟩
      have bx2 := bx1.keep hb2
      have hB2 : Below w.heap.size w w2 := by (repeat (first | (with_reducible assumption) | (with_reducible exact Below.refl _ _) | ((with_reducible refine Below.alloc ?_ ?hsz _); (case hsz => (first | omega | (simp; done) | (simp; omega) | (simp at *; omega)))) | ((with_reducible refine Below.setCell ?_ ?hsz _); (case hsz => (first | omega | (simp; done) | (simp; omega) | (simp at *; omega)))) | (with_reducible refine Below.drew ?_) | (with_reducible refine below_drewN ?_ _) | ((with_reducible refine Below.trans ?_ (Below.mono (by with_reducible assumption) ?hsz)); (case hsz => (first | omega | (simp; done) | (simp; omega) | (simp at *; omega))))))
      clear bx1 hb2 d0 d1 bs
      obtain ⟨bs, d0, d1, -, -⟩ := id bx2
      by_cases he : endsB n ps i j = true
      · rw [he]
        have hfb : flowsB n ps xs i j = false := by
          have := hok'
          rw [partsOkB, hfl, he] at this
          simpa using this
        clear hok'
        go_wp2_with fail
        refine (flowsBetween_any n i j _ _ ps xs b b' _ ((hp0.keep hB2).keep (by (repeat (first | (with_reducible assumption) | (with_reducible exact Below.refl _ _) | ((with_reducible refine Below.alloc ?_ ?hsz _); (case hsz => (first | omega | (simp; done) | (simp; omega) | (simp at *; omega)))) | ((with_reducible refine Below.setCell ?_ ?hsz _); (case hsz => (first | omega | (simp; done) | (simp; omega) | (simp at *; omega)))) | (with_reducible refine Below.drew ?_) | (with_reducible refine below_drewN ?_ _) | ((with_reducible refine Below.trans ?_ (Below.mono (by with_reducible assumption) ?hsz)); (case hsz => (first | omega | (simp; done) | (simp; omega) | (simp at *; omega)))))))) ((hx0.keep hB2).keep (by (repeat (first | (with_reducible assumption) | (with_reducible exact Below.refl _ _) | ((with_reducible refine Below.alloc ?_ ?hsz _); (case hsz => (first | omega | (simp; done) | (simp; omega) | (simp at *; omega)))) | ((with_reducible refine Below.setCell ?_ ?hsz _); (case hsz => (first | omega | (simp; done) | (simp; omega) | (simp at *; omega)))) | (with_reducible refine Below.drew ?_) | (with_reducible refine below_drewN ?_ _) | ((with_reducible refine Below.trans ?_ (Below.mono (by with_reducible assumption) ?hsz)); (case hsz => (first | omega | (simp; done) | (simp; omega) | (simp at *; omega)))))))) hfl).mono ?_
        rintro e w3 ⟨rfl, hb3⟩
        rw [hfb]
        go_wp2
        go_ret2
        exact ⟨.slice none 0 0, ret_vb Hf.out.symm, by rw [Hno.out]; exact OwnRowsV.none_ _ _, by (repeat (first | (with_reducible assumption) | (with_reducible exact Below.refl _ _) | ((with_reducible refine Below.alloc ?_ ?hsz _); (case hsz => (first | omega | (simp; done) | (simp; omega) | (simp at *; omega)))) | ((with_reducible refine Below.setCell ?_ ?hsz _); (case hsz => (first | omega | (simp; done) | (simp; omega) | (simp at *; omega)))) | (with_reducible refine Below.drew ?_) | (with_reducible refine below_drewN ?_ _) | ((with_reducible refine Below.trans ?_ (Below.mono (by with_reducible assumption) ?hsz)); (case hsz => (first | omega | (simp; done) | (simp; omega) | (simp at *; omega))))))⟩
      · have he' : endsB n ps i j = false := by simpa using he
        rw [he']
        go_wp2
        go_ret2
        exact ⟨.slice none 0 0, ret_vb Hf.out.symm, by rw [Hno.out]; exact OwnRowsV.none_ _ _, by (repeat (first | (with_reducible assumption) | (with_reducible exact Below.refl _ _) | ((with_reducible refine Below.alloc ?_ ?hsz _); (case hsz => (first | omega | (simp; done) | (simp; omega) | (simp at *; omega)))) | ((with_reducible refine Below.setCell ?_ ?hsz _); (case hsz => (first | omega | (simp; done) | (simp; omega) | (simp at *; omega)))) | (with_reducible refine Below.drew ?_) | (with_reducible refine below_drewN ?_ _) | ((with_reducible refine Below.trans ?_ (Below.mono (by with_reducible assumption) ?hsz)); (case hsz => (first | omega | (simp; done) | (simp; omega) | (simp at *; omega))))))⟩
    · have hfl' : flowOkB n ps xs = false := by simpa using hfl
      rw [hfl']
      go_wp2
      go_ret2
      exact ⟨.slice none 0 0, ret_vb Hf.out.symm, by rw [Hno.out]; exact OwnRowsV.none_ _ _, by (repeat (first | (with_reducible assumption) | (with_reducible exact Below.refl _ _) | ((with_reducible refine Below.alloc ?_ ?hsz _); (case hsz => (first | omega | (simp; done) | (simp; omega) | (simp at *; omega)))) | ((with_reducible refine Below.setCell ?_ ?hsz _); (case hsz => (first | omega | (simp; done) | (simp; omega) | (simp at *; omega)))) | (with_reducible refine Below.drew ?_) | (with_reducible refine below_drewN ?_ _) | ((with_reducible refine Below.trans ?_ (Below.mono (by with_reducible assumption) ?hsz)); (case hsz => (first | omega | (simp; done) | (simp; omega) | (simp at *; omega))))))⟩

end Go.Proofs.YtmgpekdhcghabaaGreat
