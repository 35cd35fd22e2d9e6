/- Contracts of the functions of chapter 4 in the program: what a part takes out. -/
import Derived.Test.YtlaeckjfjleplaaV4
import Derived.Test.YtlaeckjfjleplaaWG
import Derived.Test.YtlaeckjfjleplaaG4
namespace Go.Proofs.Ytlaeckjfjleplaa
open Go.RowKit

set_option maxHeartbeats 1000000 in
set_option maxRecDepth 20000 in
theorem leastFn_any (r y : Int) (q bf g m c : Nat) (w : World) (hq : q < m) (d0 : w.cell? ⟨bf, 0, none⟩ = some (.slice (some ⟨g, 0, none⟩) m c)) (cx : w.cell? ⟨g, q, none⟩ = some (.int .i64 y)) :
    Calls Try.prog 107 #[.int .i64 r, .int .i64 q, .pointer (some ⟨bf, 0, none⟩)] w fun e w' => e = .returned (.int .i64 (min r y)) ∧ w = w' := by
  go_enter Try.func107, Try.ntmps107
  go_wp2
  all_goals
    go_ret
    exact ⟨ret_int (by omega), rfl⟩

set_option maxHeartbeats 2000000 in
set_option maxRecDepth 20000 in
theorem foldLeast_any (bf : Nat) (u v : Value) (l : List Nat) (xs : List Int) (b : Nat) (w : World) (hx : Ints w b u xs) (hl : Lies w v (natsI l)) (hq : ∀ q ∈ l, q < xs.length) (h6 : l.length ≤ 6) (hbf : bf < w.heap.size) (d0 : w.cell? ⟨bf, 0, none⟩ = some u) :
    Calls Try.prog 106 #[v, .int .i64 40, .func (Fn.func 107) #[] #[.pointer (some ⟨bf, 0, none⟩)]] w fun e w' => e = .returned (.int .i64 (leastP xs l)) ∧ Below w.heap.size w w' := by
  obtain ⟨g, o, cl, rfl, hg, hcl1, hcl2, hcell⟩ := hl
  unfold maxLen at hcl2
  have hnl : (natsI l).length = l.length := by simp
  rw [hnl] at hcl1 ⊢
  have HC := Lib.hid hcell
  have HQ := Lib.hid hq
  have HNL := Lib.hid hnl
  clear hcell hq hnl
  go_enter Try.func106, Try.ntmps106
  go_wp2
  go_loopw [11, 1] (fun i t wr => ∃ k : Nat, k ≤ l.length ∧ i = .int .i64 k ∧ t = .int .i64 (leastP xs (l.take k)) ∧ Below w.heap.size w wr) (fun i _ _ => l.length - (intOf i).toNat)
  case atStart => exact ⟨0, by omega, rfl, rfl, Below.refl _ _⟩
  case round =>
    obtain ⟨k, hk, rfl, rfl, hb⟩ := hrel
    have hzb := hb.size
    by_cases hlt : k < l.length
    · have cl0 := (hb.cell (p := ⟨g, o + k, none⟩) hg).trans (HC.out k (by rw [HNL.out]; exact hlt))
      have ek : (natsI l)[k]'(by rw [HNL.out]; exact hlt) = ((l[k] : Nat) : Int) := by simp
      rw [ek] at cl0
      have Hn := Lib.hid (least_snoc xs l k hlt)
      have hgw : g < wr.heap.size := by omega
      have hql := HQ.out _ (List.getElem_mem hlt)
      clear ek
      obtain ⟨A', c', hu, -⟩ := hx.form
      subst hu
      obtain ⟨gx, rfl, gx1, gx2, cx, -⟩ := hx.cellAt hb l[k] hql
      have ey : xs.getD l[k] 0 = xs[l[k]] := getD_at hql
      rw [ey] at Hn
      clear ey
      have e0 := (hb.cell (p := ⟨bf, 0, none⟩) hbf).trans d0
      generalize xs[l[k]] = y at *
      generalize l[k] = q at *
      generalize leastP xs (l.take k) = r at *
      go_wp2_with fail
      with_reducible refine (leastFn_any r y q bf gx xs.length c' _ hql e0 cx).mono ?_
      rintro e w2 ⟨rfl, rfl⟩
      go_wp2
      go_roundw
      case rel => exact ⟨k + 1, by omega, by go_num, by rw [Hn.out], by (repeat (first | (with_reducible assumption) | (with_reducible exact Below.refl _ _) | ((with_reducible refine Below.alloc ?_ ?hsz _); (case hsz => (first | omega | (simp; done) | (simp; omega) | (simp at *; omega)))) | ((with_reducible refine Below.setCell ?_ ?hsz _); (case hsz => (first | omega | (simp; done) | (simp; omega) | (simp at *; omega)))) | (with_reducible refine Below.drew ?_) | (with_reducible refine below_drewN ?_ _) | ((with_reducible refine Below.trans ?_ (Below.mono (by with_reducible assumption) ?hsz)); (case hsz => (first | omega | (simp; done) | (simp; omega) | (simp at *; omega))))))⟩
      case measure => first | (simp [intOf]; done) | (simp [intOf]; omega)
    · have hkl : k = l.length := by omega
      subst hkl
      rw [List.take_length]
      go_wp2
      go_ret
      exact ⟨rfl, hb⟩

set_option maxHeartbeats 1000000 in
set_option maxRecDepth 20000 in
theorem leastIn_any (u v : Value) (l : List Nat) (xs : List Int) (b : Nat) (w : World) (hx : Ints w b u xs) (hl : Lies w v (natsI l)) (hq : ∀ q ∈ l, q < xs.length) (h6 : l.length ≤ 6) :
    Calls Try.prog 72 #[u, v] w fun e w' => e = .returned (.int .i64 (leastP xs l)) ∧ Below w.heap.size w w' := by
  have hx0 := hx
  have hl0 := hl
  obtain ⟨A, c, rfl, -, -, -, -⟩ := hx.form
  obtain ⟨g, o, cl, rfl, -, -, -, -⟩ := hl
  obtain ⟨m, hm⟩ : ∃ m, (natsI l).length = m := ⟨_, rfl⟩
  rw [hm] at hl0 ⊢
  clear hm
  go_enter Try.func72, Try.ntmps72
  go_wp2_with fail
  have hW : Below w.heap.size w (w.alloc (.cells #[.slice A xs.length c] 26)) := by (repeat (first | (with_reducible assumption) | (with_reducible exact Below.refl _ _) | ((with_reducible refine Below.alloc ?_ ?hsz _); (case hsz => (first | omega | (simp; done) | (simp; omega) | (simp at *; omega)))) | ((with_reducible refine Below.setCell ?_ ?hsz _); (case hsz => (first | omega | (simp; done) | (simp; omega) | (simp at *; omega)))) | (with_reducible refine Below.drew ?_) | (with_reducible refine below_drewN ?_ _) | ((with_reducible refine Below.trans ?_ (Below.mono (by with_reducible assumption) ?hsz)); (case hsz => (first | omega | (simp; done) | (simp; omega) | (simp at *; omega))))))
  have hF := foldLeast_any w.heap.size _ _ l xs b (w.alloc (.cells #[.slice A xs.length c] 26)) (hx0.keep hW) (hl0.keep hW) hq h6 (by simp) (by simp)
  with_reducible refine hF.mono ?_
  rintro e w1 ⟨rfl, hb1⟩
  go_wp2
  go_ret
  exact ⟨rfl, by (repeat (first | (with_reducible assumption) | (with_reducible exact Below.refl _ _) | ((with_reducible refine Below.alloc ?_ ?hsz _); (case hsz => (first | omega | (simp; done) | (simp; omega) | (simp at *; omega)))) | ((with_reducible refine Below.setCell ?_ ?hsz _); (case hsz => (first | omega | (simp; done) | (simp; omega) | (simp at *; omega)))) | (with_reducible refine Below.drew ?_) | (with_reducible refine below_drewN ?_ _) | ((with_reducible refine Below.trans ?_ (Below.mono (by with_reducible assumption) ?hsz)); (case hsz => (first | omega | (simp; done) | (simp; omega) | (simp at *; omega))))))⟩

set_option maxHeartbeats 1000000 in
set_option maxRecDepth 20000 in
theorem partRow_any (d : Int) (v : Value) (L : List Int) (w : World) (hl : Lies w v L) (h1 : 1 ≤ L.length) (h6 : L.length ≤ 6) :
    Calls Try.prog 73 #[.int .i64 d, v] w fun e w' => ∃ r, e = .returned r ∧ Ints w' w.heap.size r (d :: L) ∧ Below w.heap.size w w' := by
  have hL := hl.keep (w' := w.alloc (.cells #[.int .i64 d] 3)) (by (repeat (first | (with_reducible assumption) | (with_reducible exact Below.refl _ _) | ((with_reducible refine Below.alloc ?_ ?hsz _); (case hsz => (first | omega | (simp; done) | (simp; omega) | (simp at *; omega)))) | ((with_reducible refine Below.setCell ?_ ?hsz _); (case hsz => (first | omega | (simp; done) | (simp; omega) | (simp at *; omega)))) | (with_reducible refine Below.drew ?_) | (with_reducible refine below_drewN ?_ _) | ((with_reducible refine Below.trans ?_ (Below.mono (by with_reducible assumption) ?hsz)); (case hsz => (first | omega | (simp; done) | (simp; omega) | (simp at *; omega)))))))
  obtain ⟨g, o, cl, rfl, hg, hcl1, hcl2, -⟩ := hl
  unfold maxLen at hcl2
  obtain ⟨g9, o9, c9, hv9, -, -, -, hc9⟩ := hL
  injection hv9 with e1 e2 e3
  injection e1 with e1
  injection e1 with e1 e4
  subst e1
  subst e4
  have hnews := news_lies hc9
  obtain ⟨i0, hi0', hz0, hz1', hz2'⟩ := info_parts int_info
  have hown := World.ownsRow_lit (e := 3) (base := w.heap.size) (size := 1) w #[.int .i64 d] 1 (Nat.le_refl _) (by simp [maxLen]) rfl
  obtain ⟨m, hm⟩ : ∃ m, L.length = m := ⟨_, rfl⟩
  rw [hm] at hcl1 h1 h6 ⊢
  have HM := Lib.hid hm
  clear hm e2 e3
  go_enter Try.func73, Try.ntmps73
  go_wp2_with (first
    | (at_builtin
       go_must (refine wpList_append_lies _ rfl _ _ 26 rfl w.heap.size 3 i0 _ 1 8 Try.underlying26 hi0' hz0 hz1' hz2' rfl (by omega) (.slice (some ⟨w.heap.size, 0, none⟩) 1 1) 1 [.int .i64 d] rfl hown ⟨g, o, none⟩ m cl (L.map (Value.int .i64)) rfl (by rw [List.length_map, HM.out, Nat.mul_one]) hnews (by intro u' hu'; obtain ⟨y', -, rfl⟩ := List.mem_map.1 hu'; rfl) (by omega) (by unfold maxLen; omega) (by omega) (by simp) _ rfl ?_)
       intro g2 k2 w7 hown7 hgr7 hat7 hlt7))
  go_ret
  refine ⟨_, rfl, ⟨by rw [show (d :: L).length = 1 + m by rw [List.length_cons, HM.out]; omega]; exact hown7, by rw [List.length_cons, HM.out]; unfold small; omega⟩, ?_⟩
  exact Below.grown (w := w.alloc (.cells #[.int .i64 d] 3)) (by (repeat (first | (with_reducible assumption) | (with_reducible exact Below.refl _ _) | ((with_reducible refine Below.alloc ?_ ?hsz _); (case hsz => (first | omega | (simp; done) | (simp; omega) | (simp at *; omega)))) | ((with_reducible refine Below.setCell ?_ ?hsz _); (case hsz => (first | omega | (simp; done) | (simp; omega) | (simp at *; omega)))) | (with_reducible refine Below.drew ?_) | (with_reducible refine below_drewN ?_ _) | ((with_reducible refine Below.trans ?_ (Below.mono (by with_reducible assumption) ?hsz)); (case hsz => (first | omega | (simp; done) | (simp; omega) | (simp at *; omega))))))) hgr7 (by (first | omega | (simp; done) | (simp; omega) | (simp at *; omega))) (fun q hq => by have hq' : w.heap.size = q := (by injection hq); omega)

set_option maxHeartbeats 1000000 in
set_option maxRecDepth 20000 in
theorem takenFn_any (q ba g N cap B : Nat) (d : Int) (xs : List Int) (w : World) (hR : Row w B g N cap xs) (hq : q < N) (hy : -100 ≤ xs.getD q 0 ∧ xs.getD q 0 ≤ 100) (hd : 0 ≤ d ∧ d ≤ 40) (d0 : w.cell? ⟨ba, 0, none⟩ = some (.int .i64 d)) :
    Calls Try.prog 109 #[.slice (some ⟨g, 0, none⟩) N cap, .int .i64 q, .pointer (some ⟨ba, 0, none⟩)] w fun e w' => e = .returned (.slice (some ⟨g, 0, none⟩) N cap) ∧ Row w' B g N cap (xs.set q (xs.getD q 0 - d)) ∧ Below B w w' := by
  obtain ⟨y0, y1⟩ := hR.at' q hq
  obtain ⟨hg1, hg2⟩ := hR.lt
  obtain ⟨hcl1, hcl2⟩ := hR.capd
  unfold maxLen at hcl2
  obtain ⟨y, hyy⟩ : ∃ y, xs.getD q 0 = y := ⟨_, rfl⟩
  rw [hyy] at y0 hy
  have Hy := Lib.hid hyy
  have HR := Lib.hid hR
  clear hyy hR
  go_enter Try.func109, Try.ntmps109
  go_wp2_with fail
  go_region
  all_goals
    go_wp2
    go_ret
    exact ⟨rfl, by rw [Hy.out]; exact (HR.out.set q (y - d)).drew, by (repeat (first | (with_reducible assumption) | (with_reducible exact Below.refl _ _) | ((with_reducible refine Below.alloc ?_ ?hsz _); (case hsz => (first | omega | (simp; done) | (simp; omega) | (simp at *; omega)))) | ((with_reducible refine Below.setCell ?_ ?hsz _); (case hsz => (first | omega | (simp; done) | (simp; omega) | (simp at *; omega)))) | (with_reducible refine Below.drew ?_) | (with_reducible refine below_drewN ?_ _) | ((with_reducible refine Below.trans ?_ (Below.mono (by with_reducible assumption) ?hsz)); (case hsz => (first | omega | (simp; done) | (simp; omega) | (simp at *; omega))))))⟩

set_option maxHeartbeats 2000000 in
set_option maxRecDepth 20000 in
theorem foldTaken_any (ba gl N cap : Nat) (d : Int) (v : Value) (l : List Nat) (xs : List Int) (w0 w : World) (hb0 : Below w0.heap.size w0 w) (hl : Lies w0 v (natsI l)) (hR : Row w w0.heap.size gl N cap xs) (hq : ∀ q ∈ l, q < N) (h6 : l.length ≤ 6)
    (hbd : ∀ k i, -40 ≤ (lessP d xs (l.take k)).getD i 0 ∧ (lessP d xs (l.take k)).getD i 0 ≤ 40) (hd : 0 ≤ d ∧ d ≤ 40) (hba : ba < w0.heap.size) (d0 : w0.cell? ⟨ba, 0, none⟩ = some (.int .i64 d)) :
    Calls Try.prog 90 #[v, .slice (some ⟨gl, 0, none⟩) N cap, .func (Fn.func 109) #[] #[.pointer (some ⟨ba, 0, none⟩)]] w fun e w' => e = .returned (.slice (some ⟨gl, 0, none⟩) N cap) ∧ Row w' w0.heap.size gl N cap (lessP d xs l) ∧ Below w0.heap.size w0 w' := by
  obtain ⟨g, o, cl, rfl, hg, hcl1, hcl2, hcell⟩ := hl
  unfold maxLen at hcl2
  have hnl : (natsI l).length = l.length := by simp
  rw [hnl] at hcl1 ⊢
  have HC := Lib.hid hcell
  have HQ := Lib.hid hq
  have HNL := Lib.hid hnl
  have HB := Lib.hid hbd
  clear hcell hq hnl hbd
  go_enter Try.func90, Try.ntmps90
  go_wp2
  go_loopw [11, 1] (fun i t wr => ∃ k : Nat, k ≤ l.length ∧ i = .int .i64 k ∧ t = .slice (some ⟨gl, 0, none⟩) N cap ∧ Row wr w0.heap.size gl N cap (lessP d xs (l.take k)) ∧ Below w0.heap.size w0 wr) (fun i _ _ => l.length - (intOf i).toNat)
  case atStart => exact ⟨0, by omega, rfl, rfl, hR, hb0⟩
  case round =>
    clear hR hb0
    obtain ⟨k, hk, rfl, rfl, hR, hb⟩ := hrel
    have hzb := hb.size
    by_cases hlt : k < l.length
    · have cl0 := (hb.cell (p := ⟨g, o + k, none⟩) hg).trans (HC.out k (by rw [HNL.out]; exact hlt))
      have ek : (natsI l)[k]'(by rw [HNL.out]; exact hlt) = ((l[k] : Nat) : Int) := by simp
      rw [ek] at cl0
      have Hn := Lib.hid (less_snoc d xs l k hlt)
      have hgw : g < wr.heap.size := by omega
      have hql := HQ.out _ (List.getElem_mem hlt)
      have hbk := HB.out k l[k]
      have e0 := (hb.cell (p := ⟨ba, 0, none⟩) hba).trans d0
      clear ek
      generalize l[k] = q at *
      generalize lessP d xs (l.take k) = ys at *
      go_wp2_with fail
      with_reducible refine (takenFn_any q ba gl N cap w0.heap.size d ys _ hR hql (by omega) hd e0).mono ?_
      rintro e w2 ⟨rfl, hR2, hb2⟩
      rw [← Hn.out] at hR2
      have hbw2 := hb.trans hb2
      clear hR e0 cl0 hb hb2 hbk
      go_wp2
      go_roundw
      case rel => exact ⟨k + 1, by omega, by go_num, rfl, hR2, hbw2⟩
      case measure => first | (simp [intOf]; done) | (simp [intOf]; omega)
    · have hkl : k = l.length := by omega
      subst hkl
      rw [List.take_length] at hR
      go_wp2
      go_ret
      exact ⟨rfl, hR, hb⟩

set_option maxHeartbeats 1000000 in
set_option maxRecDepth 20000 in
theorem takenOut_any (d : Int) (u v : Value) (l : List Nat) (xs : List Int) (b : Nat) (w : World) (hx : Ints w b u xs) (hl : Lies w v (natsI l)) (hq : ∀ q ∈ l, q < xs.length) (h6 : l.length ≤ 6) (hnd : l.Nodup) (hxb : ∀ i, 0 ≤ xs.getD i 0 ∧ xs.getD i 0 ≤ 40) (hd : 0 ≤ d ∧ d ≤ 40) (h0 : 0 < xs.length) :
    Calls Try.prog 74 #[u, v, .int .i64 d] w fun e w' => ∃ r, e = .returned r ∧ Ints w' w.heap.size r (lessP d xs l) ∧ Below w.heap.size w w' := by
  have hx0 := hx
  have hl0 := hl
  obtain ⟨A, c, rfl, -, -, -, -⟩ := hx.form
  obtain ⟨g, o, cl, rfl, -, -, -, -⟩ := hl
  obtain ⟨m, hm⟩ : ∃ m, (natsI l).length = m := ⟨_, rfl⟩
  rw [hm] at hl0 ⊢
  have hxl : Hid (∀ k i, -40 ≤ (lessP d xs (l.take k)).getD i 0 ∧ (lessP d xs (l.take k)).getD i 0 ≤ 40) := Lib.hid (by
    intro k i
    rw [less_at d (l.take k) xs (hnd.sublist (List.take_sublist _ _)) (fun q hq' => hq q (List.mem_of_mem_take hq'))]
    have := hxb i
    split <;> omega)
  clear hm hxb hnd
  go_enter Try.func74, Try.ntmps74
  go_wp2_with fail
  with_reducible refine (clone_any _ xs b _ (hx0.keep (by (repeat (first | (with_reducible assumption) | (with_reducible exact Below.refl _ _) | ((with_reducible refine Below.alloc ?_ ?hsz _); (case hsz => (first | omega | (simp; done) | (simp; omega) | (simp at *; omega)))) | ((with_reducible refine Below.setCell ?_ ?hsz _); (case hsz => (first | omega | (simp; done) | (simp; omega) | (simp at *; omega)))) | (with_reducible refine Below.drew ?_) | (with_reducible refine below_drewN ?_ _) | ((with_reducible refine Below.trans ?_ (Below.mono (by with_reducible assumption) ?hsz)); (case hsz => (first | omega | (simp; done) | (simp; omega) | (simp at *; omega)))))))) h0).mono ?_
  rintro e w1 ⟨g2, cap, rfl, hR, hb1⟩
  go_wp2_with fail
  have hF := foldTaken_any w.heap.size g2 xs.length cap d _ l xs (w.alloc (.cells #[.int .i64 d] 3)) w1 hb1 (hl0.keep (by (repeat (first | (with_reducible assumption) | (with_reducible exact Below.refl _ _) | ((with_reducible refine Below.alloc ?_ ?hsz _); (case hsz => (first | omega | (simp; done) | (simp; omega) | (simp at *; omega)))) | ((with_reducible refine Below.setCell ?_ ?hsz _); (case hsz => (first | omega | (simp; done) | (simp; omega) | (simp at *; omega)))) | (with_reducible refine Below.drew ?_) | (with_reducible refine below_drewN ?_ _) | ((with_reducible refine Below.trans ?_ (Below.mono (by with_reducible assumption) ?hsz)); (case hsz => (first | omega | (simp; done) | (simp; omega) | (simp at *; omega)))))))) hR hq h6 hxl.out hd (by simp) (by simp)
  refine hF.mono ?_
  rintro e w2 ⟨rfl, hR2, hb2⟩
  go_wp2
  go_ret
  refine ⟨_, rfl, ?_, ((Below.refl _ _).alloc (Nat.le_refl _) _).trans (hb2.mono (by (first | omega | (simp; done) | (simp; omega) | (simp at *; omega))))⟩
  have := (hR2.mono (b' := w.heap.size) (by simp)).ints
  exact this

end Go.Proofs.Ytlaeckjfjleplaa
