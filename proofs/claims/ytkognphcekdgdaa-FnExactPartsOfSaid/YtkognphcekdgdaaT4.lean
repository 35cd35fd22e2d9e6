/- Contracts of the functions of chapter 4 in the model: the least amount of some pipes, and a flow without it. -/
import Derived.Test.YtkognphcekdgdaaT3
namespace Go.Proofs.Ytkognphcekdgdaa
open Go.RowKit

/-- numbers that lie one behind the other somewhere -/
def Lies (w : World) (v : Value) (L : List Int) : Prop :=
  ∃ g o c, v = .slice (some ⟨g, o, none⟩) L.length c ∧ g < w.heap.size ∧ L.length ≤ c ∧ c ≤ maxLen ∧ ∀ j (h : j < L.length), w.cell? ⟨g, o + j, none⟩ = some (.int .i64 L[j])
theorem Lies.keep {w w' : World} {v : Value} {L : List Int} (h : Lies w v L) (hb : Below w.heap.size w w') : Lies w' v L := by
  obtain ⟨g, o, c, h1, h2, h3, h4, h5⟩ := h
  exact ⟨g, o, c, h1, Nat.lt_of_lt_of_le h2 hb.size, h3, h4, fun j hj => (hb.cell (p := ⟨g, o + j, none⟩) h2).trans (h5 j hj)⟩
theorem news_lies {w : World} {g o : Nat} {L : List Int} (h : ∀ j (h : j < L.length), w.cell? ⟨g, o + j, none⟩ = some (.int .i64 L[j])) : ∀ j u, (L.map (Value.int .i64))[j]? = some u → w.cell? ((⟨g, o, none⟩ : Addr).add j) = some u := by
  intro j u hj
  have hjl : j < L.length := by
    have := (List.getElem?_eq_some_iff.1 hj).1
    simpa using this
  have hadd : (⟨g, o, none⟩ : Addr).add j = ⟨g, o + j, none⟩ := by unfold Addr.add; split <;> simp_all
  rw [hadd, h j hjl, ← hj]
  simp [hjl]

theorem least_snoc (xs : List Int) (l : List Nat) (k : Nat) (hk : k < l.length) : leastP xs (l.take (k + 1)) = min (leastP xs (l.take k)) (xs.getD l[k] 0) := by
  rw [List.take_succ_eq_append_getElem hk, leastP, List.foldl_append]
  rfl
theorem less_snoc (d : Int) (xs : List Int) (l : List Nat) (k : Nat) (hk : k < l.length) : lessP d xs (l.take (k + 1)) = (lessP d xs (l.take k)).set l[k] ((lessP d xs (l.take k)).getD l[k] 0 - d) := by
  rw [List.take_succ_eq_append_getElem hk, lessP, List.foldl_append]
  rfl

theorem news_cells' {w : World} {b n g cap : Nat} {L : List Int} (h : Row w b g n cap L) : ∀ j u, (L.map (Value.int .i64))[j]? = some u → w.cell? ((⟨g, 0, none⟩ : Addr).add j) = some u := h.1.cells rfl

set_option maxHeartbeats 2000000 in
set_option maxRecDepth 20000 in
theorem l4Least_any (b : Nat) (u v : Value) (xs : List Int) (l : List Nat) (w : World) (hx : Ints w b u xs) (hl : Lies w v (natsI l)) (hq : ∀ q ∈ l, q < xs.length) (h6 : l.length ≤ 6) :
    Calls Try.prog 46 #[u, v] w fun e w' => e = .returned (.int .i64 (leastP xs l)) ∧ Below w.heap.size w w' := by
  obtain ⟨A, c, rfl, hc1, hc2, hsm, -⟩ := hx.form
  obtain ⟨g, o, cl, rfl, hg, hcl1, hcl2, hcell⟩ := hl
  unfold maxLen at hc2 hcl2
  have hnl : (natsI l).length = l.length := by simp
  rw [hnl] at hcl1 ⊢
  have HC := Lib.hid hcell
  have HQ := Lib.hid hq
  have HNL := Lib.hid hnl
  clear hcell hq hnl
  go_enter Try.func46, Try.ntmps46
  go_wp2
  go_loopw [5, 6] (fun t5 t6 wr => ∃ k : Nat, k ≤ l.length ∧ t6 = .int .i64 k ∧ t5 = .int .i64 (leastP xs (l.take k)) ∧ Below w.heap.size w wr) (fun _ t _ => l.length - (intOf t).toNat)
  case atStart => exact ⟨0, by omega, rfl, rfl, Below.refl _ _⟩
  case round =>
    obtain ⟨k, hk, rfl, rfl, hb⟩ := hrel
    have hzb := hb.size
    by_cases hlt : k < l.length
    · have hql := HQ.out _ (List.getElem_mem hlt)
      obtain ⟨gx, rfl, gx1, gx2, cx, -⟩ := hx.cellAt hb l[k] hql
      have cl0 := (hb.cell (p := ⟨g, o + k, none⟩) hg).trans (HC.out k (by rw [HNL.out]; exact hlt))
      have ek : (natsI l)[k]'(by rw [HNL.out]; exact hlt) = ((l[k] : Nat) : Int) := by simp
      rw [ek] at cl0
      have Hn := Lib.hid (least_snoc xs l k hlt)
      have ey : xs.getD l[k] 0 = xs[l[k]] := getD_at hql
      rw [ey] at Hn
      have hgw : g < wr.heap.size := by omega
      have hgxw : gx < wr.heap.size := Nat.lt_of_lt_of_le gx2 hzb
      clear ek ey
      generalize xs[l[k]] = y at *
      generalize l[k] = q at *
      generalize leastP xs (l.take k) = r at *
      go_wp2
      go_roundw
      case rel => exact ⟨k + 1, by omega, by go_num, by rw [Hn.out]; congr 1; split <;> omega, by (repeat (first | (with_reducible assumption) | (with_reducible exact Below.refl _ _) | ((with_reducible refine Below.alloc ?_ ?hsz _); (case hsz => (first | omega | (simp; done) | (simp; omega) | (simp at *; omega)))) | ((with_reducible refine Below.setCell ?_ ?hsz _); (case hsz => (first | omega | (simp; done) | (simp; omega) | (simp at *; omega)))) | (with_reducible refine Below.drew ?_) | (with_reducible refine below_drewN ?_ _) | ((with_reducible refine Below.trans ?_ (Below.mono (by with_reducible assumption) ?hsz)); (case hsz => (first | omega | (simp; done) | (simp; omega) | (simp at *; omega))))))⟩
      case measure => first | (simp [intOf]; done) | (simp [intOf]; omega)
    · have hkl : k = l.length := by omega
      subst hkl
      rw [List.take_length]
      go_wp2
      go_ret
      exact ⟨rfl, hb⟩

set_option maxHeartbeats 4000000 in
set_option maxRecDepth 20000 in
theorem l4Less_any (b : Nat) (d : Int) (u v : Value) (xs : List Int) (l : List Nat) (w : World) (hx : Ints w b u xs) (hl : Lies w v (natsI l)) (hq : ∀ q ∈ l, q < xs.length) (h6 : l.length ≤ 6) (hnd : l.Nodup) (hxb : ∀ i, 0 ≤ xs.getD i 0 ∧ xs.getD i 0 ≤ 40) (hd : 0 ≤ d ∧ d ≤ 40) (h0 : 0 < xs.length) :
    Calls Try.prog 47 #[u, v, .int .i64 d] w fun e w' => ∃ r, e = .returned r ∧ Ints w' w.heap.size r (lessP d xs l) ∧ Below w.heap.size w w' := by
  obtain ⟨g0, c, rfl, hR0⟩ := hx.row h0
  obtain ⟨og1, og2⟩ := hR0.lt
  obtain ⟨oc1, oc2⟩ := hR0.capd
  obtain ⟨g, o, cl, rfl, hg, hcl1, hcl2, hcell⟩ := hl
  unfold maxLen at oc2 hcl2
  have hsm := hR0.2
  have hnl : (natsI l).length = l.length := by simp
  rw [hnl] at hcl1 ⊢
  obtain ⟨i0, hi0', hz0, hz1', hz2'⟩ := info_parts int_info
  have hnews := news_cells' (hR0.keep (w' := w.alloc (.cells #[] 3)) (by (repeat (first | (with_reducible assumption) | (with_reducible exact Below.refl _ _) | ((with_reducible refine Below.alloc ?_ ?hsz _); (case hsz => (first | omega | (simp; done) | (simp; omega) | (simp at *; omega)))) | ((with_reducible refine Below.setCell ?_ ?hsz _); (case hsz => (first | omega | (simp; done) | (simp; omega) | (simp at *; omega)))) | (with_reducible refine Below.drew ?_) | (with_reducible refine below_drewN ?_ _) | ((with_reducible refine Below.trans ?_ (Below.mono (by with_reducible assumption) ?hsz)); (case hsz => (first | omega | (simp; done) | (simp; omega) | (simp at *; omega))))))))
  have hown0 := World.ownsRow_lit (e := 3) (base := w.heap.size) (size := 1) w #[] 0 (Nat.le_refl _) (by simp [maxLen]) rfl
  have hxl : Hid (∀ k i, -40 ≤ (lessP d xs (l.take k)).getD i 0 ∧ (lessP d xs (l.take k)).getD i 0 ≤ 40) := Lib.hid (by
    intro k i
    rw [less_at d (l.take k) xs (hnd.sublist (List.take_sublist _ _)) (fun q hq' => hq q (List.mem_of_mem_take hq'))]
    have := hxb i
    split <;> omega)
  have HC := Lib.hid hcell
  have HQ := Lib.hid hq
  have HNL := Lib.hid hnl
  clear hcell hq hnl hxb hnd hx
  go_enter Try.func47, Try.ntmps47
  go_wp2_with (first
    | (at_builtin
       go_must (refine wpList_append_lies _ rfl _ _ 25 rfl w.heap.size 3 i0 _ 1 8 Try.underlying25 hi0' hz0 hz1' hz2' rfl (by omega) (.slice (some ⟨w.heap.size, 0, none⟩) 0 0) 0 [] rfl hown0 ⟨g0, 0, none⟩ xs.length c (xs.map (Value.int .i64)) rfl (by simp) hnews (by simp [Value.oneCell']) h0 (by unfold maxLen small at *; omega) (by unfold small at *; omega) (by simp) _ rfl ?_)
       intro g2 k2 w7 hown7 hgr7 hat7 hlt7))
  rw [Nat.zero_add, List.nil_append] at hown7
  have hB7 : Below w.heap.size w w7 := Below.grown (w := w.alloc (.cells #[] 3)) (by (repeat (first | (with_reducible assumption) | (with_reducible exact Below.refl _ _) | ((with_reducible refine Below.alloc ?_ ?hsz _); (case hsz => (first | omega | (simp; done) | (simp; omega) | (simp at *; omega)))) | ((with_reducible refine Below.setCell ?_ ?hsz _); (case hsz => (first | omega | (simp; done) | (simp; omega) | (simp at *; omega)))) | (with_reducible refine Below.drew ?_) | (with_reducible refine below_drewN ?_ _) | ((with_reducible refine Below.trans ?_ (Below.mono (by with_reducible assumption) ?hsz)); (case hsz => (first | omega | (simp; done) | (simp; omega) | (simp at *; omega))))))) hgr7 (by (first | omega | (simp; done) | (simp; omega) | (simp at *; omega))) (fun q hq => by have hq' : w.heap.size = q := (by injection hq); omega)
  have hR7 : Row w7 w.heap.size g2 xs.length k2 (lessP d xs (l.take 0)) := ⟨hown7, hsm⟩
  clear hown7 hgr7 hat7 hown0 hnews
  go_loopw [8] (fun t wr => ∃ k : Nat, k ≤ l.length ∧ t = .int .i64 k ∧ Row wr w.heap.size g2 xs.length k2 (lessP d xs (l.take k)) ∧ Below w.heap.size w wr) (fun t _ => l.length - (intOf t).toNat)
  case atStart => exact ⟨0, by omega, rfl, hR7, hB7⟩
  case round =>
    clear hR7 hB7
    obtain ⟨k, hk, rfl, hR, hb⟩ := hrel
    have hzb := hb.size
    by_cases hlt : k < l.length
    · have hql := HQ.out _ (List.getElem_mem hlt)
      have cl0 := (hb.cell (p := ⟨g, o + k, none⟩) hg).trans (HC.out k (by rw [HNL.out]; exact hlt))
      have ek : (natsI l)[k]'(by rw [HNL.out]; exact hlt) = ((l[k] : Nat) : Int) := by simp
      rw [ek] at cl0
      have Hn := Lib.hid (less_snoc d xs l k hlt)
      have hbd := hxl.out k l[k]
      have hgw : g < wr.heap.size := by omega
      clear ek
      generalize lessP d xs (l.take k) = ys at *
      generalize l[k] = q at *
      obtain ⟨cy, fy⟩ := hR.at' q hql
      obtain ⟨rg1, rg2⟩ := hR.lt
      obtain ⟨rc1, rc2⟩ := hR.capd
      unfold maxLen at rc2
      generalize ys.getD q 0 = y at *
      go_wp2_with fail
      go_region
      all_goals
        go_wp2
        go_roundw
        case rel => exact ⟨k + 1, by omega, by go_num, by rw [Hn.out]; exact (hR.set q (y - d)).drew, by (repeat (first | (with_reducible assumption) | (with_reducible exact Below.refl _ _) | ((with_reducible refine Below.alloc ?_ ?hsz _); (case hsz => (first | omega | (simp; done) | (simp; omega) | (simp at *; omega)))) | ((with_reducible refine Below.setCell ?_ ?hsz _); (case hsz => (first | omega | (simp; done) | (simp; omega) | (simp at *; omega)))) | (with_reducible refine Below.drew ?_) | (with_reducible refine below_drewN ?_ _) | ((with_reducible refine Below.trans ?_ (Below.mono (by with_reducible assumption) ?hsz)); (case hsz => (first | omega | (simp; done) | (simp; omega) | (simp at *; omega))))))⟩
        case measure => first | (simp [intOf]; done) | (simp [intOf]; omega)
    · have hkl : k = l.length := by omega
      subst hkl
      rw [List.take_length] at hR
      go_wp2
      go_ret
      refine ⟨_, rfl, ?_, hb⟩
      have h1 := hR.ints
      exact h1

end Go.Proofs.Ytkognphcekdgdaa
