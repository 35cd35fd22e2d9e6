/- Plain facts. -/
import Derived.Test.YtmgpekdhcghabaaGreatGR5
import Derived.Deep.DeepCutAuto
import Derived.Deep.RegionWith
import Derived.Lib.BufferMore
import Derived.Test.YtmgpekdhcghabaaGreatGR18
import Derived.Test.YtmgpekdhcghabaaGreatV4
/- Contracts of the functions of chapter 3 in the program: pushes along a way. -/
namespace Go.Proofs.YtmgpekdhcghabaaGreat
open Go.RowKit

set_option maxHeartbeats 2000000 in
set_option maxRecDepth 20000 in
theorem pushFn_any (s ba g N cap B : Nat) (d : Int) (xs : List Int) (w : World) (hR : Row w B g N cap xs) (hs : s / 2 < N) (hN : N ≤ 7) (hbd : ∀ j, 0 ≤ xs.getD j 0 ∧ xs.getD j 0 ≤ 40) (hd : 0 ≤ d ∧ d ≤ 40) (d0 : w.cell? ⟨ba, 0, none⟩ = some (.int .i64 d)) :
    Calls Tryz.prog 128 #[.slice (some ⟨g, 0, none⟩) N cap, .int .i64 s, .pointer (some ⟨ba, 0, none⟩)] w fun e w' => e = .returned (.slice (some ⟨g, 0, none⟩) N cap) ∧ Row w' B g N cap (push1 d xs s) ∧ Below B w w' := by
  obtain ⟨k, hk⟩ : ∃ k, s / 2 = k := ⟨_, rfl⟩
  rw [hk] at hs
  obtain ⟨y0, y1⟩ := hR.at' k hs
  obtain ⟨hg1, hg2⟩ := hR.lt
  obtain ⟨hcl1, hcl2⟩ := hR.capd
  unfold maxLen at hcl2
  have hx := hbd k
  obtain ⟨x, hxx⟩ : ∃ x, xs.getD k 0 = x := ⟨_, rfl⟩
  rw [hxx] at y0 hx
  have hq : (s : Int) / 2 = (k : Int) := by omega
  have hq2 : (s : Int).tdiv 2 = (k : Int) := by rw [Int.tdiv_eq_ediv_of_nonneg (Int.natCast_nonneg s)]; exact hq
  have hq3 : IntKind.i64.wrap (k : Int) = (k : Int) := IntWalk.i64_in _ (by omega)
  have hq4 : (0 : Int) ≤ (k : Int) := by omega
  clear hbd
  rcases (show s % 2 = 1 ∨ s % 2 = 0 by omega) with hm | hm
  · have hdd := Lib.hid (show decide (s % 2 = 1) = true by simp [hm])
    have Hp := Lib.hid (show push1 d xs s = xs.set k (x - d) by rw [push1, if_pos hm, hk, hxx])
    have HR := Lib.hid hR
    clear hm hk hR hxx
    go_enter Tryz.func128, Tryz.ntmps128
    go_upto_region 2 with (first | (go_at_call 129; ((with_reducible refine (stepBack_any s _ true hdd.out (by omega)).mono ?_); rintro e w1 ⟨rfl, rfl⟩)))
    go_region
    all_goals
      go_wp2
      go_ret
      exact ⟨rfl, by rw [Hp.out]; exact (HR.out.set k (x - d)).drew, by (repeat (first | (with_reducible assumption) | (with_reducible exact Below.refl _ _) | ((with_reducible refine Below.alloc ?_ ?hsz _); (case hsz => (first | omega | (simp; done) | (simp; omega) | (simp at *; omega)))) | ((with_reducible refine Below.setCell ?_ ?hsz _); (case hsz => (first | omega | (simp; done) | (simp; omega) | (simp at *; omega)))) | (with_reducible refine Below.drew ?_) | (with_reducible refine below_drewN ?_ _) | ((with_reducible refine Below.trans ?_ (Below.mono (by with_reducible assumption) ?hsz)); (case hsz => (first | omega | (simp; done) | (simp; omega) | (simp at *; omega))))))⟩
  · have hdd := Lib.hid (show decide (s % 2 = 1) = false by simp [hm])
    have Hp := Lib.hid (show push1 d xs s = xs.set k (x + d) by rw [push1, if_neg (by omega), hk, hxx])
    have HR := Lib.hid hR
    clear hm hk hR hxx
    go_enter Tryz.func128, Tryz.ntmps128
    go_upto_region 3 with (first | (go_at_call 129; ((with_reducible refine (stepBack_any s _ false hdd.out (by omega)).mono ?_); rintro e w1 ⟨rfl, rfl⟩)))
    go_region
    all_goals
      go_wp2
      go_ret
      exact ⟨rfl, by rw [Hp.out]; exact (HR.out.set k (x + d)).drew, by (repeat (first | (with_reducible assumption) | (with_reducible exact Below.refl _ _) | ((with_reducible refine Below.alloc ?_ ?hsz _); (case hsz => (first | omega | (simp; done) | (simp; omega) | (simp at *; omega)))) | ((with_reducible refine Below.setCell ?_ ?hsz _); (case hsz => (first | omega | (simp; done) | (simp; omega) | (simp at *; omega)))) | (with_reducible refine Below.drew ?_) | (with_reducible refine below_drewN ?_ _) | ((with_reducible refine Below.trans ?_ (Below.mono (by with_reducible assumption) ?hsz)); (case hsz => (first | omega | (simp; done) | (simp; omega) | (simp at *; omega))))))⟩

set_option maxHeartbeats 2000000 in
set_option maxRecDepth 20000 in
theorem foldPush_any (ba gl N cap b0 : Nat) (d : Int) (u0 : Value) (l : List Nat) (ps : List Pp) (xs : List Int) (w0 w : World) (hb0 : Below w0.heap.size w0 w) (h0 : Ints w0 b0 u0 (ofS l)) (hR : Row w w0.heap.size gl N cap xs) (hN : N = ps.length) (hl7 : ps.length ≤ 7)
    (hs : ∀ s ∈ l, s < 2 * ps.length) (hbd : ∀ k j, 0 ≤ (pushL d xs (l.take k)).getD j 0 ∧ (pushL d xs (l.take k)).getD j 0 ≤ 40) (hd : 0 ≤ d ∧ d ≤ 40) (hba : ba < w0.heap.size) (d0 : w0.cell? ⟨ba, 0, none⟩ = some (.int .i64 d)) :
    Calls Tryz.prog 82 #[u0, .slice (some ⟨gl, 0, none⟩) N cap, .func (Fn.func 128) #[] #[.pointer (some ⟨ba, 0, none⟩)]] w fun e w' => e = .returned (.slice (some ⟨gl, 0, none⟩) N cap) ∧ Row w' w0.heap.size gl N cap (pushL d xs l) ∧ Below w0.heap.size w0 w' := by
  obtain ⟨A, c, rfl, hc1, hc2, hsm, hcell⟩ := h0.form
  unfold maxLen at hc2
  have hlS : (ofS l).length = l.length := by simp
  rw [hlS] at hc1 hsm ⊢
  have hlS := Lib.hid hlS
  have HB := Lib.hid hbd
  have HS := Lib.hid hs
  have HNN := Lib.hid hN
  clear hbd hs hN
  go_enter Tryz.func82, Tryz.ntmps82
  go_wp2
  go_loopw [11, 1] (fun i t wr => ∃ k : Nat, k ≤ l.length ∧ i = .int .i64 k ∧ t = .slice (some ⟨gl, 0, none⟩) N cap ∧ Row wr w0.heap.size gl N cap (pushL d xs (l.take k)) ∧ Below w0.heap.size w0 wr) (fun i _ _ => l.length - (intOf i).toNat)
  case atStart => exact ⟨0, by omega, rfl, rfl, hR, hb0⟩
  case round =>
    clear hR hb0
    obtain ⟨k, hk, rfl, rfl, hR, hb⟩ := hrel
    by_cases hlt : k < l.length
    · obtain ⟨g, rfl, hg1, hg2, c0, -⟩ := hcell wr hb k (by rw [hlS.out]; exact hlt)
      have c0' : wr.cell? ⟨g, k, none⟩ = some (.int .i64 (l[k] : Nat)) := by rw [c0]; simp
      have hsk := HS.out _ (List.getElem_mem hlt)
      have Hn := Lib.hid (pushL_snoc d xs l k hlt)
      have hbk := HB.out k
      generalize pushL d xs (l.take k) = ys at *
      clear c0
      have e0 := (hb.cell (p := ⟨ba, 0, none⟩) hba).trans d0
      go_wp2_with fail
      with_reducible refine (pushFn_any l[k] ba gl N cap w0.heap.size d ys _ hR (by have := HNN.out; omega) (by have := HNN.out; omega) hbk hd e0).mono ?_
      rintro e w2 ⟨rfl, hR2, hb2⟩
      rw [← Hn.out] at hR2
      clear hR e0 c0'
      have hbw2 := hb.trans hb2
      clear hb hb2 hbk
      go_wp2
      go_roundw
      case rel => exact ⟨k + 1, by omega, by go_num, rfl, hR2, hbw2⟩
      case measure => simp [intOf]; omega
    · have hk2 : k = l.length := by omega
      subst hk2
      rw [List.take_length] at hR
      go_wp2
      go_ret
      exact ⟨rfl, hR, hb⟩

set_option maxHeartbeats 1000000 in
set_option maxRecDepth 20000 in
theorem clone_any (v : Value) (xs : List Int) (b : Nat) (w : World) (hx : Ints w b v xs) (h0 : 0 < xs.length) :
    Calls Tryz.prog 114 #[v] w fun e w' => ∃ g cap, e = .returned (.slice (some ⟨g, 0, none⟩) xs.length cap) ∧ Row w' w.heap.size g xs.length cap xs ∧ Below w.heap.size w w' := by
  obtain ⟨g, cap, rfl, hR⟩ := hx.row h0
  obtain ⟨hg1, hg2⟩ := hR.lt
  obtain ⟨hcl1, hcl2⟩ := hR.capd
  obtain ⟨i0, hi0, hz0, hz1, hz2⟩ := info_parts int_info
  have hsm := hR.2
  have hnews : Hid (∀ j u, (xs.map (Value.int .i64))[j]? = some u → (w.alloc (.cells #[] 3)).cell? ((⟨g, 0, none⟩ : Addr).add j) = some u) := Lib.hid (by
    intro j u hj
    have hjl : j < xs.length := by
      have := (List.getElem?_eq_some_iff.1 hj).1
      simpa using this
    rw [add_plain, Nat.zero_add]
    refine (World.cell?_alloc_lt _ _ _ (by simpa using hg2)).trans ?_
    rw [(hR.at' j hjl).1, ← hj]
    simp [List.getD_eq_getElem?_getD, hjl])
  have hnil : ∀ W : World, (binOp .eql 30 (.slice (some ⟨g, 0, none⟩) xs.length cap) (.slice none 0 0)).run Tryz.prog W = .ok (.bool false) W := fun W => Lib.run_eql_slice_some_nil W _ _ _ Tryz.underlying30
  have hown0 := World.ownsRow_lit (e := 3) (base := w.heap.size) (size := 1) w #[] 0 (Nat.le_refl _) (by simp [maxLen]) rfl
  go_enter Tryz.func114, Tryz.ntmps114
  go_wp2_with (first
    | (at_builtin
       go_must (refine wpList_append_lies _ rfl _ _ 30 rfl w.heap.size 3 i0 _ 1 8 Tryz.underlying30 hi0 hz0 hz1 hz2 rfl (by omega) _ 0 [] rfl hown0 ⟨g, 0, none⟩ xs.length cap (xs.map (Value.int .i64)) rfl (by simp) hnews.out (by simp [Value.oneCell']) h0 (by unfold maxLen small at *; omega) (by unfold small at *; omega) (by simp) _ rfl ?_)
       intro g2 k2 w7 hown7 hgr7 hat7 hlt7))
  go_ret
  rw [Nat.zero_add, List.nil_append] at hown7
  refine ⟨g2, k2, rfl, ⟨hown7, hsm⟩, ?_⟩
  exact Below.grown (w := w.alloc (.cells #[] 3)) (by (repeat (first | (with_reducible assumption) | (with_reducible exact Below.refl _ _) | ((with_reducible refine Below.alloc ?_ ?hsz _); (case hsz => (first | omega | (simp; done) | (simp; omega) | (simp at *; omega)))) | ((with_reducible refine Below.setCell ?_ ?hsz _); (case hsz => (first | omega | (simp; done) | (simp; omega) | (simp at *; omega)))) | (with_reducible refine Below.drew ?_) | (with_reducible refine below_drewN ?_ _) | ((with_reducible refine Below.trans ?_ (Below.mono (by with_reducible assumption) ?hsz)); (case hsz => (first | omega | (simp; done) | (simp; omega) | (simp at *; omega))))))) hgr7 (by (first | omega | (simp; done) | (simp; omega) | (simp at *; omega))) (fun q hq => by
    have hq' : w.heap.size = q := by injection hq
    omega)

set_option maxHeartbeats 1000000 in
set_option maxRecDepth 20000 in
theorem pushedAlong_any (u0 u : Value) (l : List Nat) (ps : List Pp) (xs : List Int) (b b0 : Nat) (d : Int) (w : World) (h0 : Ints w b0 u0 (ofS l)) (hx : Ints w b u xs) (hN : xs.length = ps.length) (hl7 : ps.length ≤ 7) (hpos : 0 < xs.length)
    (hs : ∀ s ∈ l, s < 2 * ps.length) (hbd : ∀ k j, 0 ≤ (pushL d xs (l.take k)).getD j 0 ∧ (pushL d xs (l.take k)).getD j 0 ≤ 40) (hd : 0 ≤ d ∧ d ≤ 40) :
    Calls Tryz.prog 106 #[u, u0, .int .i64 d] w fun e w' => ∃ r, e = .returned r ∧ Ints w' w.heap.size r (pushL d xs l) ∧ Below w.heap.size w w' := by
  have hx0 := hx
  have h00 := h0
  obtain ⟨A, c, rfl, -, -, -, -⟩ := hx.form
  obtain ⟨A0, c0, rfl, -, -, -, -⟩ := h0.form
  obtain ⟨m0, hm0⟩ : ∃ m, (ofS l).length = m := ⟨_, rfl⟩
  rw [hm0] at h00 ⊢
  clear h0 hm0 hx
  have HB := Lib.hid hbd
  have HS := Lib.hid hs
  have HN := Lib.hid hN
  clear hbd hs hN
  go_enter Tryz.func106, Tryz.ntmps106
  go_wp2_with fail
  with_reducible refine (clone_any _ xs b _ (hx0.keep (by (repeat (first | (with_reducible assumption) | (with_reducible exact Below.refl _ _) | ((with_reducible refine Below.alloc ?_ ?hsz _); (case hsz => (first | omega | (simp; done) | (simp; omega) | (simp at *; omega)))) | ((with_reducible refine Below.setCell ?_ ?hsz _); (case hsz => (first | omega | (simp; done) | (simp; omega) | (simp at *; omega)))) | (with_reducible refine Below.drew ?_) | (with_reducible refine below_drewN ?_ _) | ((with_reducible refine Below.trans ?_ (Below.mono (by with_reducible assumption) ?hsz)); (case hsz => (first | omega | (simp; done) | (simp; omega) | (simp at *; omega)))))))) hpos).mono ?_
  rintro e w1 ⟨g, cap, rfl, hR, hb1⟩
  go_wp2_with fail
  refine (foldPush_any w.heap.size g xs.length cap b0 d _ l ps xs (w.alloc (.cells #[.int .i64 d] 3)) w1 hb1 (h00.keep (by (repeat (first | (with_reducible assumption) | (with_reducible exact Below.refl _ _) | ((with_reducible refine Below.alloc ?_ ?hsz _); (case hsz => (first | omega | (simp; done) | (simp; omega) | (simp at *; omega)))) | ((with_reducible refine Below.setCell ?_ ?hsz _); (case hsz => (first | omega | (simp; done) | (simp; omega) | (simp at *; omega)))) | (with_reducible refine Below.drew ?_) | (with_reducible refine below_drewN ?_ _) | ((with_reducible refine Below.trans ?_ (Below.mono (by with_reducible assumption) ?hsz)); (case hsz => (first | omega | (simp; done) | (simp; omega) | (simp at *; omega)))))))) hR HN.out hl7 HS.out HB.out hd (by (first | omega | (simp; done) | (simp; omega) | (simp at *; omega))) (by go_simp)).mono ?_
  rintro e w2 ⟨rfl, hR2, hb2⟩
  go_wp2
  go_ret
  exact ⟨_, rfl, (hR2.mono (by (first | omega | (simp; done) | (simp; omega) | (simp at *; omega)))).ints, ((Below.refl _ _).alloc (Nat.le_refl _) _).trans (hb2.mono (by (first | omega | (simp; done) | (simp; omega) | (simp at *; omega))))⟩

end Go.Proofs.YtmgpekdhcghabaaGreat

/- Contracts of the functions of chapter 4 in the model: the least amount of some pipes, and a flow without it. -/
namespace Go.Proofs.YtmgpekdhcghabaaGreat
open Go.RowKit

/-- numbers that lie one behind the other somewhere -/
def Lies (w : World) (v : Value) (L : List Int) : Prop :=
  ∃ g o c, v = .slice (some ⟨g, o, none⟩) L.length c ∧ g < w.heap.size ∧ L.length ≤ c ∧ c ≤ maxLen ∧ ∀ j (h : j < L.length), w.cell? ⟨g, o + j, none⟩ = some (.int .i64 L[j])
theorem Lies.keep {w w' : World} {v : Value} {L : List Int} (h : Lies w v L) (hb : Below w.heap.size w w') : Lies w' v L := by
  obtain ⟨g, o, c, h1, h2, h3, h4, h5⟩ := h
  exact ⟨g, o, c, h1, Nat.lt_of_lt_of_le h2 hb.size, h3, h4, fun j hj => (hb.cell (p := ⟨g, o + j, none⟩) h2).trans (h5 j hj)⟩
theorem news_lies {w : World} {g o : Nat} {L : List Int} (h : ∀ j (h : j < L.length), w.cell? ⟨g, o + j, none⟩ = some (.int .i64 L[j])) : ∀ j u, (L.map (Value.int .i64))[j]? = some u → w.cell? ((⟨g, o, none⟩ : Addr).add j) = some u := by
  intro j u hj
  have hjl : j < L.length := by
    have := (List.getElem?_eq_some_iff.1 hj).1
    simpa using this
  have hadd : (⟨g, o, none⟩ : Addr).add j = ⟨g, o + j, none⟩ := by unfold Addr.add; split <;> simp_all
  rw [hadd, h j hjl, ← hj]
  simp [hjl]

theorem least_snoc (xs : List Int) (l : List Nat) (k : Nat) (hk : k < l.length) : leastP xs (l.take (k + 1)) = min (leastP xs (l.take k)) (xs.getD l[k] 0) := by
  rw [List.take_succ_eq_append_getElem hk, leastP, List.foldl_append]
  rfl
theorem less_snoc (d : Int) (xs : List Int) (l : List Nat) (k : Nat) (hk : k < l.length) : lessP d xs (l.take (k + 1)) = (lessP d xs (l.take k)).set l[k] ((lessP d xs (l.take k)).getD l[k] 0 - d) := by
  rw [List.take_succ_eq_append_getElem hk, lessP, List.foldl_append]
  rfl

theorem news_cells' {w : World} {b n g cap : Nat} {L : List Int} (h : Row w b g n cap L) : ∀ j u, (L.map (Value.int .i64))[j]? = some u → w.cell? ((⟨g, 0, none⟩ : Addr).add j) = some u := h.1.cells rfl

set_option maxHeartbeats 2000000 in
set_option maxRecDepth 20000 in
theorem l4Least_any (b : Nat) (u v : Value) (xs : List Int) (l : List Nat) (w : World) (hx : Ints w b u xs) (hl : Lies w v (natsI l)) (hq : ∀ q ∈ l, q < xs.length) (h6 : l.length ≤ 6) :
    Calls Tryz.prog 76 #[u, v] w fun e w' => e = .returned (.int .i64 (leastP xs l)) ∧ Below w.heap.size w w' := by
  obtain ⟨A, c, rfl, hc1, hc2, hsm, -⟩ := hx.form
  obtain ⟨g, o, cl, rfl, hg, hcl1, hcl2, hcell⟩ := hl
  unfold maxLen at hc2 hcl2
  have hnl : (natsI l).length = l.length := by simp
  rw [hnl] at hcl1 ⊢
  have HC := Lib.hid hcell
  have HQ := Lib.hid hq
  have HNL := Lib.hid hnl
  clear hcell hq hnl
  go_enter Tryz.func76, Tryz.ntmps76
  go_wp2
  go_loopw [5, 6] (fun t5 t6 wr => ∃ k : Nat, k ≤ l.length ∧ t6 = .int .i64 k ∧ t5 = .int .i64 (leastP xs (l.take k)) ∧ Below w.heap.size w wr) (fun _ t _ => l.length - (intOf t).toNat)
  case atStart => exact ⟨0, by omega, rfl, rfl, Below.refl _ _⟩
  case round =>
    obtain ⟨k, hk, rfl, rfl, hb⟩ := hrel
    have hzb := hb.size
    by_cases hlt : k < l.length
    · have hql := HQ.out _ (List.getElem_mem hlt)
      obtain ⟨gx, rfl, gx1, gx2, cx, -⟩ := hx.cellAt hb l[k] hql
      have cl0 := (hb.cell (p := ⟨g, o + k, none⟩) hg).trans (HC.out k (by rw [HNL.out]; exact hlt))
      have ek : (natsI l)[k]'(by rw [HNL.out]; exact hlt) = ((l[k] : Nat) : Int) := by simp
      rw [ek] at cl0
      have Hn := Lib.hid (least_snoc xs l k hlt)
      have ey : xs.getD l[k] 0 = xs[l[k]] := getD_at hql
      rw [ey] at Hn
      have hgw : g < wr.heap.size := by omega
      have hgxw : gx < wr.heap.size := Nat.lt_of_lt_of_le gx2 hzb
      clear ek ey
      generalize xs[l[k]] = y at *
      generalize l[k] = q at *
      generalize leastP xs (l.take k) = r at *
      go_wp2
      go_roundw
      case rel => exact ⟨k + 1, by omega, by go_num, by rw [Hn.out]; congr 1; split <;> omega, by (repeat (first | (with_reducible assumption) | (with_reducible exact Below.refl _ _) | ((with_reducible refine Below.alloc ?_ ?hsz _); (case hsz => (first | omega | (simp; done) | (simp; omega) | (simp at *; omega)))) | ((with_reducible refine Below.setCell ?_ ?hsz _); (case hsz => (first | omega | (simp; done) | (simp; omega) | (simp at *; omega)))) | (with_reducible refine Below.drew ?_) | (with_reducible refine below_drewN ?_ _) | ((with_reducible refine Below.trans ?_ (Below.mono (by with_reducible assumption) ?hsz)); (case hsz => (first | omega | (simp; done) | (simp; omega) | (simp at *; omega))))))⟩
      case measure => first | (simp [intOf]; done) | (simp [intOf]; omega)
    · have hkl : k = l.length := by omega
      subst hkl
      rw [List.take_length]
      go_wp2
      go_ret
      exact ⟨rfl, hb⟩

set_option maxHeartbeats 4000000 in
set_option maxRecDepth 20000 in
theorem l4Less_any (b : Nat) (d : Int) (u v : Value) (xs : List Int) (l : List Nat) (w : World) (hx : Ints w b u xs) (hl : Lies w v (natsI l)) (hq : ∀ q ∈ l, q < xs.length) (h6 : l.length ≤ 6) (hnd : l.Nodup) (hxb : ∀ i, 0 ≤ xs.getD i 0 ∧ xs.getD i 0 ≤ 40) (hd : 0 ≤ d ∧ d ≤ 40) (h0 : 0 < xs.length) :
    Calls Tryz.prog 77 #[u, v, .int .i64 d] w fun e w' => ∃ r, e = .returned r ∧ Ints w' w.heap.size r (lessP d xs l) ∧ Below w.heap.size w w' := by
  obtain ⟨g0, c, rfl, hR0⟩ := hx.row h0
  obtain ⟨og1, og2⟩ := hR0.lt
  obtain ⟨oc1, oc2⟩ := hR0.capd
  obtain ⟨g, o, cl, rfl, hg, hcl1, hcl2, hcell⟩ := hl
  unfold maxLen at oc2 hcl2
  have hsm := hR0.2
  have hnl : (natsI l).length = l.length := by simp
  rw [hnl] at hcl1 ⊢
  obtain ⟨i0, hi0', hz0, hz1', hz2'⟩ := info_parts int_info
  have hnews := news_cells' (hR0.keep (w' := w.alloc (.cells #[] 3)) (by (repeat (first | (with_reducible assumption) | (with_reducible exact Below.refl _ _) | ((with_reducible refine Below.alloc ?_ ?hsz _); (case hsz => (first | omega | (simp; done) | (simp; omega) | (simp at *; omega)))) | ((with_reducible refine Below.setCell ?_ ?hsz _); (case hsz => (first | omega | (simp; done) | (simp; omega) | (simp at *; omega)))) | (with_reducible refine Below.drew ?_) | (with_reducible refine below_drewN ?_ _) | ((with_reducible refine Below.trans ?_ (Below.mono (by with_reducible assumption) ?hsz)); (case hsz => (first | omega | (simp; done) | (simp; omega) | (simp at *; omega))))))))
  have hown0 := World.ownsRow_lit (e := 3) (base := w.heap.size) (size := 1) w #[] 0 (Nat.le_refl _) (by simp [maxLen]) rfl
  have hxl : Hid (∀ k i, -40 ≤ (lessP d xs (l.take k)).getD i 0 ∧ (lessP d xs (l.take k)).getD i 0 ≤ 40) := Lib.hid (by
    intro k i
    rw [less_at d (l.take k) xs (hnd.sublist (List.take_sublist _ _)) (fun q hq' => hq q (List.mem_of_mem_take hq'))]
    have := hxb i
    split <;> omega)
  have HC := Lib.hid hcell
  have HQ := Lib.hid hq
  have HNL := Lib.hid hnl
  clear hcell hq hnl hxb hnd hx
  go_enter Tryz.func77, Tryz.ntmps77
  go_wp2_with (first
    | (at_builtin
       go_must (refine wpList_append_lies _ rfl _ _ 30 rfl w.heap.size 3 i0 _ 1 8 Tryz.underlying30 hi0' hz0 hz1' hz2' rfl (by omega) (.slice (some ⟨w.heap.size, 0, none⟩) 0 0) 0 [] rfl hown0 ⟨g0, 0, none⟩ xs.length c (xs.map (Value.int .i64)) rfl (by simp) hnews (by simp [Value.oneCell']) h0 (by unfold maxLen small at *; omega) (by unfold small at *; omega) (by simp) _ rfl ?_)
       intro g2 k2 w7 hown7 hgr7 hat7 hlt7))
  rw [Nat.zero_add, List.nil_append] at hown7
  have hB7 : Below w.heap.size w w7 := Below.grown (w := w.alloc (.cells #[] 3)) (by (repeat (first | (with_reducible assumption) | (with_reducible exact Below.refl _ _) | ((with_reducible refine Below.alloc ?_ ?hsz _); (case hsz => (first | omega | (simp; done) | (simp; omega) | (simp at *; omega)))) | ((with_reducible refine Below.setCell ?_ ?hsz _); (case hsz => (first | omega | (simp; done) | (simp; omega) | (simp at *; omega)))) | (with_reducible refine Below.drew ?_) | (with_reducible refine below_drewN ?_ _) | ((with_reducible refine Below.trans ?_ (Below.mono (by with_reducible assumption) ?hsz)); (case hsz => (first | omega | (simp; done) | (simp; omega) | (simp at *; omega))))))) hgr7 (by (first | omega | (simp; done) | (simp; omega) | (simp at *; omega))) (fun q hq => by have hq' : w.heap.size = q := (by injection hq); omega)
  have hR7 : Row w7 w.heap.size g2 xs.length k2 (lessP d xs (l.take 0)) := ⟨hown7, hsm⟩
  clear hown7 hgr7 hat7 hown0 hnews
  go_loopw [8] (fun t wr => ∃ k : Nat, k ≤ l.length ∧ t = .int .i64 k ∧ Row wr w.heap.size g2 xs.length k2 (lessP d xs (l.take k)) ∧ Below w.heap.size w wr) (fun t _ => l.length - (intOf t).toNat)
  case atStart => exact ⟨0, by omega, rfl, hR7, hB7⟩
  case round =>
    clear hR7 hB7
    obtain ⟨k, hk, rfl, hR, hb⟩ := hrel
    have hzb := hb.size
    by_cases hlt : k < l.length
    · have hql := HQ.out _ (List.getElem_mem hlt)
      have cl0 := (hb.cell (p := ⟨g, o + k, none⟩) hg).trans (HC.out k (by rw [HNL.out]; exact hlt))
      have ek : (natsI l)[k]'(by rw [HNL.out]; exact hlt) = ((l[k] : Nat) : Int) := by simp
      rw [ek] at cl0
      have Hn := Lib.hid (less_snoc d xs l k hlt)
      have hbd := hxl.out k l[k]
      have hgw : g < wr.heap.size := by omega
      clear ek
      generalize lessP d xs (l.take k) = ys at *
      generalize l[k] = q at *
      obtain ⟨cy, fy⟩ := hR.at' q hql
      obtain ⟨rg1, rg2⟩ := hR.lt
      obtain ⟨rc1, rc2⟩ := hR.capd
      unfold maxLen at rc2
      generalize ys.getD q 0 = y at *
      go_wp2_with fail
      go_region
      all_goals
        go_wp2
        go_roundw
        case rel => exact ⟨k + 1, by omega, by go_num, by rw [Hn.out]; exact (hR.set q (y - d)).drew, by (repeat (first | (with_reducible assumption) | (with_reducible exact Below.refl _ _) | ((with_reducible refine Below.alloc ?_ ?hsz _); (case hsz => (first | omega | (simp; done) | (simp; omega) | (simp at *; omega)))) | ((with_reducible refine Below.setCell ?_ ?hsz _); (case hsz => (first | omega | (simp; done) | (simp; omega) | (simp at *; omega)))) | (with_reducible refine Below.drew ?_) | (with_reducible refine below_drewN ?_ _) | ((with_reducible refine Below.trans ?_ (Below.mono (by with_reducible assumption) ?hsz)); (case hsz => (first | omega | (simp; done) | (simp; omega) | (simp at *; omega))))))⟩
        case measure => first | (simp [intOf]; done) | (simp [intOf]; omega)
    · have hkl : k = l.length := by omega
      subst hkl
      rw [List.take_length] at hR
      go_wp2
      go_ret
      refine ⟨_, rfl, ?_, hb⟩
      have h1 := hR.ints
      exact h1

end Go.Proofs.YtmgpekdhcghabaaGreat

/- Contracts of the functions of chapter 4 in the program: what a part takes out. -/
namespace Go.Proofs.YtmgpekdhcghabaaGreat
open Go.RowKit

set_option maxHeartbeats 1000000 in
set_option maxRecDepth 20000 in
theorem leastFn_any (r y : Int) (q bf g m c : Nat) (w : World) (hq : q < m) (d0 : w.cell? ⟨bf, 0, none⟩ = some (.slice (some ⟨g, 0, none⟩) m c)) (cx : w.cell? ⟨g, q, none⟩ = some (.int .i64 y)) :
    Calls Tryz.prog 113 #[.int .i64 r, .int .i64 q, .pointer (some ⟨bf, 0, none⟩)] w fun e w' => e = .returned (.int .i64 (min r y)) ∧ w = w' := by
  go_enter Tryz.func113, Tryz.ntmps113
  go_wp2
  all_goals
    go_ret
    exact ⟨ret_int (by omega), rfl⟩

set_option maxHeartbeats 2000000 in
set_option maxRecDepth 20000 in
theorem foldLeast_any (bf : Nat) (u v : Value) (l : List Nat) (xs : List Int) (b : Nat) (w : World) (hx : Ints w b u xs) (hl : Lies w v (natsI l)) (hq : ∀ q ∈ l, q < xs.length) (h6 : l.length ≤ 6) (hbf : bf < w.heap.size) (d0 : w.cell? ⟨bf, 0, none⟩ = some u) :
    Calls Tryz.prog 112 #[v, .int .i64 40, .func (Fn.func 113) #[] #[.pointer (some ⟨bf, 0, none⟩)]] w fun e w' => e = .returned (.int .i64 (leastP xs l)) ∧ Below w.heap.size w w' := by
  obtain ⟨g, o, cl, rfl, hg, hcl1, hcl2, hcell⟩ := hl
  unfold maxLen at hcl2
  have hnl : (natsI l).length = l.length := by simp
  rw [hnl] at hcl1 ⊢
  have HC := Lib.hid hcell
  have HQ := Lib.hid hq
  have HNL := Lib.hid hnl
  clear hcell hq hnl
  go_enter Tryz.func112, Tryz.ntmps112
  go_wp2
  go_loopw [11, 1] (fun i t wr => ∃ k : Nat, k ≤ l.length ∧ i = .int .i64 k ∧ t = .int .i64 (leastP xs (l.take k)) ∧ Below w.heap.size w wr) (fun i _ _ => l.length - (intOf i).toNat)
  case atStart => exact ⟨0, by omega, rfl, rfl, Below.refl _ _⟩
  case round =>
    obtain ⟨k, hk, rfl, rfl, hb⟩ := hrel
    have hzb := hb.size
    by_cases hlt : k < l.length
    · have cl0 := (hb.cell (p := ⟨g, o + k, none⟩) hg).trans (HC.out k (by rw [HNL.out]; exact hlt))
      have ek : (natsI l)[k]'(by rw [HNL.out]; exact hlt) = ((l[k] : Nat) : Int) := by simp
      rw [ek] at cl0
      have Hn := Lib.hid (least_snoc xs l k hlt)
      have hgw : g < wr.heap.size := by omega
      have hql := HQ.out _ (List.getElem_mem hlt)
      clear ek
      obtain ⟨A', c', hu, -⟩ := hx.form
      subst hu
      obtain ⟨gx, rfl, gx1, gx2, cx, -⟩ := hx.cellAt hb l[k] hql
      have ey : xs.getD l[k] 0 = xs[l[k]] := getD_at hql
      rw [ey] at Hn
      clear ey
      have e0 := (hb.cell (p := ⟨bf, 0, none⟩) hbf).trans d0
      generalize xs[l[k]] = y at *
      generalize l[k] = q at *
      generalize leastP xs (l.take k) = r at *
      go_wp2_with fail
      with_reducible refine (leastFn_any r y q bf gx xs.length c' _ hql e0 cx).mono ?_
      rintro e w2 ⟨rfl, rfl⟩
      go_wp2
      go_roundw
      case rel => exact ⟨k + 1, by omega, by go_num, by rw [Hn.out], by (repeat (first | (with_reducible assumption) | (with_reducible exact Below.refl _ _) | ((with_reducible refine Below.alloc ?_ ?hsz _); (case hsz => (first | omega | (simp; done) | (simp; omega) | (simp at *; omega)))) | ((with_reducible refine Below.setCell ?_ ?hsz _); (case hsz => (first | omega | (simp; done) | (simp; omega) | (simp at *; omega)))) | (with_reducible refine Below.drew ?_) | (with_reducible refine below_drewN ?_ _) | ((with_reducible refine Below.trans ?_ (Below.mono (by with_reducible assumption) ?hsz)); (case hsz => (first | omega | (simp; done) | (simp; omega) | (simp at *; omega))))))⟩
      case measure => first | (simp [intOf]; done) | (simp [intOf]; omega)
    · have hkl : k = l.length := by omega
      subst hkl
      rw [List.take_length]
      go_wp2
      go_ret
      exact ⟨rfl, hb⟩

set_option maxHeartbeats 1000000 in
set_option maxRecDepth 20000 in
theorem leastIn_any (u v : Value) (l : List Nat) (xs : List Int) (b : Nat) (w : World) (hx : Ints w b u xs) (hl : Lies w v (natsI l)) (hq : ∀ q ∈ l, q < xs.length) (h6 : l.length ≤ 6) :
    Calls Tryz.prog 65 #[u, v] w fun e w' => e = .returned (.int .i64 (leastP xs l)) ∧ Below w.heap.size w w' := by
  have hx0 := hx
  have hl0 := hl
  obtain ⟨A, c, rfl, -, -, -, -⟩ := hx.form
  obtain ⟨g, o, cl, rfl, -, -, -, -⟩ := hl
  obtain ⟨m, hm⟩ : ∃ m, (natsI l).length = m := ⟨_, rfl⟩
  rw [hm] at hl0 ⊢
  clear hm
  go_enter Tryz.func65, Tryz.ntmps65
  go_wp2_with fail
  have hW : Below w.heap.size w (w.alloc (.cells #[.slice A xs.length c] 30)) := by (repeat (first | (with_reducible assumption) | (with_reducible exact Below.refl _ _) | ((with_reducible refine Below.alloc ?_ ?hsz _); (case hsz => (first | omega | (simp; done) | (simp; omega) | (simp at *; omega)))) | ((with_reducible refine Below.setCell ?_ ?hsz _); (case hsz => (first | omega | (simp; done) | (simp; omega) | (simp at *; omega)))) | (with_reducible refine Below.drew ?_) | (with_reducible refine below_drewN ?_ _) | ((with_reducible refine Below.trans ?_ (Below.mono (by with_reducible assumption) ?hsz)); (case hsz => (first | omega | (simp; done) | (simp; omega) | (simp at *; omega))))))
  have hF := foldLeast_any w.heap.size _ _ l xs b (w.alloc (.cells #[.slice A xs.length c] 30)) (hx0.keep hW) (hl0.keep hW) hq h6 (by simp) (by simp)
  with_reducible refine hF.mono ?_
  rintro e w1 ⟨rfl, hb1⟩
  go_wp2
  go_ret
  exact ⟨rfl, by (repeat (first | (with_reducible assumption) | (with_reducible exact Below.refl _ _) | ((with_reducible refine Below.alloc ?_ ?hsz _); (case hsz => (first | omega | (simp; done) | (simp; omega) | (simp at *; omega)))) | ((with_reducible refine Below.setCell ?_ ?hsz _); (case hsz => (first | omega | (simp; done) | (simp; omega) | (simp at *; omega)))) | (with_reducible refine Below.drew ?_) | (with_reducible refine below_drewN ?_ _) | ((with_reducible refine Below.trans ?_ (Below.mono (by with_reducible assumption) ?hsz)); (case hsz => (first | omega | (simp; done) | (simp; omega) | (simp at *; omega))))))⟩

set_option maxHeartbeats 1000000 in
set_option maxRecDepth 20000 in
theorem partRow_any (d : Int) (v : Value) (L : List Int) (w : World) (hl : Lies w v L) (h1 : 1 ≤ L.length) (h6 : L.length ≤ 6) :
    Calls Tryz.prog 66 #[.int .i64 d, v] w fun e w' => ∃ r, e = .returned r ∧ Ints w' w.heap.size r (d :: L) ∧ Below w.heap.size w w' := by
  have hL := hl.keep (w' := w.alloc (.cells #[.int .i64 d] 3)) (by (repeat (first | (with_reducible assumption) | (with_reducible exact Below.refl _ _) | ((with_reducible refine Below.alloc ?_ ?hsz _); (case hsz => (first | omega | (simp; done) | (simp; omega) | (simp at *; omega)))) | ((with_reducible refine Below.setCell ?_ ?hsz _); (case hsz => (first | omega | (simp; done) | (simp; omega) | (simp at *; omega)))) | (with_reducible refine Below.drew ?_) | (with_reducible refine below_drewN ?_ _) | ((with_reducible refine Below.trans ?_ (Below.mono (by with_reducible assumption) ?hsz)); (case hsz => (first | omega | (simp; done) | (simp; omega) | (simp at *; omega)))))))
  obtain ⟨g, o, cl, rfl, hg, hcl1, hcl2, -⟩ := hl
  unfold maxLen at hcl2
  obtain ⟨g9, o9, c9, hv9, -, -, -, hc9⟩ := hL
  injection hv9 with e1 e2 e3
  injection e1 with e1
  injection e1 with e1 e4
  subst e1
  subst e4
  have hnews := news_lies hc9
  obtain ⟨i0, hi0', hz0, hz1', hz2'⟩ := info_parts int_info
  have hown := World.ownsRow_lit (e := 3) (base := w.heap.size) (size := 1) w #[.int .i64 d] 1 (Nat.le_refl _) (by simp [maxLen]) rfl
  obtain ⟨m, hm⟩ : ∃ m, L.length = m := ⟨_, rfl⟩
  rw [hm] at hcl1 h1 h6 ⊢
  have HM := Lib.hid hm
  clear hm e2 e3
  go_enter Tryz.func66, Tryz.ntmps66
  go_wp2_with (first
    | (at_builtin
       go_must (refine wpList_append_lies _ rfl _ _ 30 rfl w.heap.size 3 i0 _ 1 8 Tryz.underlying30 hi0' hz0 hz1' hz2' rfl (by omega) (.slice (some ⟨w.heap.size, 0, none⟩) 1 1) 1 [.int .i64 d] rfl hown ⟨g, o, none⟩ m cl (L.map (Value.int .i64)) rfl (by rw [List.length_map, HM.out, Nat.mul_one]) hnews (by intro u' hu'; obtain ⟨y', -, rfl⟩ := List.mem_map.1 hu'; rfl) (by omega) (by unfold maxLen; omega) (by omega) (by simp) _ rfl ?_)
       intro g2 k2 w7 hown7 hgr7 hat7 hlt7))
  go_ret
  refine ⟨_, rfl, ⟨by rw [show (d :: L).length = 1 + m by rw [List.length_cons, HM.out]; omega]; exact hown7, by rw [List.length_cons, HM.out]; unfold small; omega⟩, ?_⟩
  exact Below.grown (w := w.alloc (.cells #[.int .i64 d] 3)) (by (repeat (first | (with_reducible assumption) | (with_reducible exact Below.refl _ _) | ((with_reducible refine Below.alloc ?_ ?hsz _); (case hsz => (first | omega | (simp; done) | (simp; omega) | (simp at *; omega)))) | ((with_reducible refine Below.setCell ?_ ?hsz _); (case hsz => (first | omega | (simp; done) | (simp; omega) | (simp at *; omega)))) | (with_reducible refine Below.drew ?_) | (with_reducible refine below_drewN ?_ _) | ((with_reducible refine Below.trans ?_ (Below.mono (by with_reducible assumption) ?hsz)); (case hsz => (first | omega | (simp; done) | (simp; omega) | (simp at *; omega))))))) hgr7 (by (first | omega | (simp; done) | (simp; omega) | (simp at *; omega))) (fun q hq => by have hq' : w.heap.size = q := (by injection hq); omega)

set_option maxHeartbeats 1000000 in
set_option maxRecDepth 20000 in
theorem takenFn_any (q ba g N cap B : Nat) (d : Int) (xs : List Int) (w : World) (hR : Row w B g N cap xs) (hq : q < N) (hy : -100 ≤ xs.getD q 0 ∧ xs.getD q 0 ≤ 100) (hd : 0 ≤ d ∧ d ≤ 40) (d0 : w.cell? ⟨ba, 0, none⟩ = some (.int .i64 d)) :
    Calls Tryz.prog 115 #[.slice (some ⟨g, 0, none⟩) N cap, .int .i64 q, .pointer (some ⟨ba, 0, none⟩)] w fun e w' => e = .returned (.slice (some ⟨g, 0, none⟩) N cap) ∧ Row w' B g N cap (xs.set q (xs.getD q 0 - d)) ∧ Below B w w' := by
  obtain ⟨y0, y1⟩ := hR.at' q hq
  obtain ⟨hg1, hg2⟩ := hR.lt
  obtain ⟨hcl1, hcl2⟩ := hR.capd
  unfold maxLen at hcl2
  obtain ⟨y, hyy⟩ : ∃ y, xs.getD q 0 = y := ⟨_, rfl⟩
  rw [hyy] at y0 hy
  have Hy := Lib.hid hyy
  have HR := Lib.hid hR
  clear hyy hR
  go_enter Tryz.func115, Tryz.ntmps115
  go_wp2_with fail
  go_region
  all_goals
    go_wp2
    go_ret
    exact ⟨rfl, by rw [Hy.out]; exact (HR.out.set q (y - d)).drew, by (repeat (first | (with_reducible assumption) | (with_reducible exact Below.refl _ _) | ((with_reducible refine Below.alloc ?_ ?hsz _); (case hsz => (first | omega | (simp; done) | (simp; omega) | (simp at *; omega)))) | ((with_reducible refine Below.setCell ?_ ?hsz _); (case hsz => (first | omega | (simp; done) | (simp; omega) | (simp at *; omega)))) | (with_reducible refine Below.drew ?_) | (with_reducible refine below_drewN ?_ _) | ((with_reducible refine Below.trans ?_ (Below.mono (by with_reducible assumption) ?hsz)); (case hsz => (first | omega | (simp; done) | (simp; omega) | (simp at *; omega))))))⟩

set_option maxHeartbeats 2000000 in
set_option maxRecDepth 20000 in
theorem foldTaken_any (ba gl N cap : Nat) (d : Int) (v : Value) (l : List Nat) (xs : List Int) (w0 w : World) (hb0 : Below w0.heap.size w0 w) (hl : Lies w0 v (natsI l)) (hR : Row w w0.heap.size gl N cap xs) (hq : ∀ q ∈ l, q < N) (h6 : l.length ≤ 6)
    (hbd : ∀ k i, -40 ≤ (lessP d xs (l.take k)).getD i 0 ∧ (lessP d xs (l.take k)).getD i 0 ≤ 40) (hd : 0 ≤ d ∧ d ≤ 40) (hba : ba < w0.heap.size) (d0 : w0.cell? ⟨ba, 0, none⟩ = some (.int .i64 d)) :
    Calls Tryz.prog 82 #[v, .slice (some ⟨gl, 0, none⟩) N cap, .func (Fn.func 115) #[] #[.pointer (some ⟨ba, 0, none⟩)]] w fun e w' => e = .returned (.slice (some ⟨gl, 0, none⟩) N cap) ∧ Row w' w0.heap.size gl N cap (lessP d xs l) ∧ Below w0.heap.size w0 w' := by
  obtain ⟨g, o, cl, rfl, hg, hcl1, hcl2, hcell⟩ := hl
  unfold maxLen at hcl2
  have hnl : (natsI l).length = l.length := by simp
  rw [hnl] at hcl1 ⊢
  have HC := Lib.hid hcell
  have HQ := Lib.hid hq
  have HNL := Lib.hid hnl
  have HB := Lib.hid hbd
  clear hcell hq hnl hbd
  go_enter Tryz.func82, Tryz.ntmps82
  go_wp2
  go_loopw [11, 1] (fun i t wr => ∃ k : Nat, k ≤ l.length ∧ i = .int .i64 k ∧ t = .slice (some ⟨gl, 0, none⟩) N cap ∧ Row wr w0.heap.size gl N cap (lessP d xs (l.take k)) ∧ Below w0.heap.size w0 wr) (fun i _ _ => l.length - (intOf i).toNat)
  case atStart => exact ⟨0, by omega, rfl, rfl, hR, hb0⟩
  case round =>
    clear hR hb0
    obtain ⟨k, hk, rfl, rfl, hR, hb⟩ := hrel
    have hzb := hb.size
    by_cases hlt : k < l.length
    · have cl0 := (hb.cell (p := ⟨g, o + k, none⟩) hg).trans (HC.out k (by rw [HNL.out]; exact hlt))
      have ek : (natsI l)[k]'(by rw [HNL.out]; exact hlt) = ((l[k] : Nat) : Int) := by simp
      rw [ek] at cl0
      have Hn := Lib.hid (less_snoc d xs l k hlt)
      have hgw : g < wr.heap.size := by omega
      have hql := HQ.out _ (List.getElem_mem hlt)
      have hbk := HB.out k l[k]
      have e0 := (hb.cell (p := ⟨ba, 0, none⟩) hba).trans d0
      clear ek
      generalize l[k] = q at *
      generalize lessP d xs (l.take k) = ys at *
      go_wp2_with fail
      with_reducible refine (takenFn_any q ba gl N cap w0.heap.size d ys _ hR hql (by omega) hd e0).mono ?_
      rintro e w2 ⟨rfl, hR2, hb2⟩
      rw [← Hn.out] at hR2
      have hbw2 := hb.trans hb2
      clear hR e0 cl0 hb hb2 hbk
      go_wp2
      go_roundw
      case rel => exact ⟨k + 1, by omega, by go_num, rfl, hR2, hbw2⟩
      case measure => first | (simp [intOf]; done) | (simp [intOf]; omega)
    · have hkl : k = l.length := by omega
      subst hkl
      rw [List.take_length] at hR
      go_wp2
      go_ret
      exact ⟨rfl, hR, hb⟩

set_option maxHeartbeats 1000000 in
set_option maxRecDepth 20000 in
theorem takenOut_any (d : Int) (u v : Value) (l : List Nat) (xs : List Int) (b : Nat) (w : World) (hx : Ints w b u xs) (hl : Lies w v (natsI l)) (hq : ∀ q ∈ l, q < xs.length) (h6 : l.length ≤ 6) (hnd : l.Nodup) (hxb : ∀ i, 0 ≤ xs.getD i 0 ∧ xs.getD i 0 ≤ 40) (hd : 0 ≤ d ∧ d ≤ 40) (h0 : 0 < xs.length) :
    Calls Tryz.prog 67 #[u, v, .int .i64 d] w fun e w' => ∃ r, e = .returned r ∧ Ints w' w.heap.size r (lessP d xs l) ∧ Below w.heap.size w w' := by
  have hx0 := hx
  have hl0 := hl
  obtain ⟨A, c, rfl, -, -, -, -⟩ := hx.form
  obtain ⟨g, o, cl, rfl, -, -, -, -⟩ := hl
  obtain ⟨m, hm⟩ : ∃ m, (natsI l).length = m := ⟨_, rfl⟩
  rw [hm] at hl0 ⊢
  have hxl : Hid (∀ k i, -40 ≤ (lessP d xs (l.take k)).getD i 0 ∧ (lessP d xs (l.take k)).getD i 0 ≤ 40) := Lib.hid (by
    intro k i
    rw [less_at d (l.take k) xs (hnd.sublist (List.take_sublist _ _)) (fun q hq' => hq q (List.mem_of_mem_take hq'))]
    have := hxb i
    split <;> omega)
  clear hm hxb hnd
  go_enter Tryz.func67, Tryz.ntmps67
  go_wp2_with fail
  with_reducible refine (clone_any _ xs b _ (hx0.keep (by (repeat (first | (with_reducible assumption) | (with_reducible exact Below.refl _ _) | ((with_reducible refine Below.alloc ?_ ?hsz _); (case hsz => (first | omega | (simp; done) | (simp; omega) | (simp at *; omega)))) | ((with_reducible refine Below.setCell ?_ ?hsz _); (case hsz => (first | omega | (simp; done) | (simp; omega) | (simp at *; omega)))) | (with_reducible refine Below.drew ?_) | (with_reducible refine below_drewN ?_ _) | ((with_reducible refine Below.trans ?_ (Below.mono (by with_reducible assumption) ?hsz)); (case hsz => (first | omega | (simp; done) | (simp; omega) | (simp at *; omega)))))))) h0).mono ?_
  rintro e w1 ⟨g2, cap, rfl, hR, hb1⟩
  go_wp2_with fail
  have hF := foldTaken_any w.heap.size g2 xs.length cap d _ l xs (w.alloc (.cells #[.int .i64 d] 3)) w1 hb1 (hl0.keep (by (repeat (first | (with_reducible assumption) | (with_reducible exact Below.refl _ _) | ((with_reducible refine Below.alloc ?_ ?hsz _); (case hsz => (first | omega | (simp; done) | (simp; omega) | (simp at *; omega)))) | ((with_reducible refine Below.setCell ?_ ?hsz _); (case hsz => (first | omega | (simp; done) | (simp; omega) | (simp at *; omega)))) | (with_reducible refine Below.drew ?_) | (with_reducible refine below_drewN ?_ _) | ((with_reducible refine Below.trans ?_ (Below.mono (by with_reducible assumption) ?hsz)); (case hsz => (first | omega | (simp; done) | (simp; omega) | (simp at *; omega)))))))) hR hq h6 hxl.out hd (by simp) (by simp)
  refine hF.mono ?_
  rintro e w2 ⟨rfl, hR2, hb2⟩
  go_wp2
  go_ret
  refine ⟨_, rfl, ?_, ((Below.refl _ _).alloc (Nat.le_refl _) _).trans (hb2.mono (by (first | omega | (simp; done) | (simp; omega) | (simp at *; omega))))⟩
  have := (hR2.mono (b' := w.heap.size) (by simp)).ints
  exact this

end Go.Proofs.YtmgpekdhcghabaaGreat
