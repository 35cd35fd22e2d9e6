/- Plain facts. -/
import Derived.Test.YtobbeofibkpbaaaGZ34
import Derived.Test.YtobbeofibkpbaaaGZ54
import Derived.Test.YtobbeofibkpbaaaGZ6
import Derived.Test.YtobbeofibkpbaaaGZ5
/- Contracts of the functions of chapter 4 in the program: what a part takes out. -/
namespace Go.Proofs.Ytobbeofibkpbaaa
open Go.RowKit

set_option maxHeartbeats 1000000 in
set_option maxRecDepth 20000 in
theorem leastFn_any (r y : Int) (q bf g m c : Nat) (w : World) (hq : q < m) (d0 : w.cell? ⟨bf, 0, none⟩ = some (.slice (some ⟨g, 0, none⟩) m c)) (cx : w.cell? ⟨g, q, none⟩ = some (.int .i64 y)) :
    Calls Try.prog 174 #[.int .i64 r, .int .i64 q, .pointer (some ⟨bf, 0, none⟩)] w fun e w' => e = .returned (.int .i64 (min r y)) ∧ w = w' := by
  go_enter Try.func174, Try.ntmps174
  go_wp2
  all_goals
    go_ret
    exact ⟨ret_int (by omega), rfl⟩

set_option maxHeartbeats 2000000 in
set_option maxRecDepth 20000 in
theorem foldLeast_any (bf : Nat) (u v : Value) (l : List Nat) (xs : List Int) (b : Nat) (w : World) (hx : Ints w b u xs) (hl : Lies w v (natsI l)) (hq : ∀ q ∈ l, q < xs.length) (h6 : l.length ≤ 6) (hbf : bf < w.heap.size) (d0 : w.cell? ⟨bf, 0, none⟩ = some u) :
    Calls Try.prog 139 #[v, .int .i64 40, .func (Fn.func 174) #[] #[.pointer (some ⟨bf, 0, none⟩)]] w fun e w' => e = .returned (.int .i64 (leastP xs l)) ∧ Below w.heap.size w w' := by
  obtain ⟨g, o, cl, rfl, hg, hcl1, hcl2, hcell⟩ := hl
  unfold maxLen at hcl2
  have hnl : (natsI l).length = l.length := by simp
  rw [hnl] at hcl1 ⊢
  have HC := Lib.hid hcell
  have HQ := Lib.hid hq
  have HNL := Lib.hid hnl
  clear hcell hq hnl
  go_enter Try.func139, Try.ntmps139
  go_wp2
  go_loopw [11, 1] (fun i t wr => ∃ k : Nat, k ≤ l.length ∧ i = .int .i64 k ∧ t = .int .i64 (leastP xs (l.take k)) ∧ Below w.heap.size w wr) (fun i _ _ => l.length - (intOf i).toNat)
  case atStart => exact ⟨0, by omega, rfl, rfl, Below.refl _ _⟩
  case round =>
    obtain ⟨k, hk, rfl, rfl, hb⟩ := hrel
    have hzb := hb.size
    by_cases hlt : k < l.length
    · have cl0 := (hb.cell (p := ⟨g, o + k, none⟩) hg).trans (HC.out k (by rw [HNL.out]; exact hlt))
      have ek : (natsI l)[k]'(by rw [HNL.out]; exact hlt) = ((l[k] : Nat) : Int) := by simp
      rw [ek] at cl0
      have Hn := Lib.hid (least_snoc xs l k hlt)
      have hgw : g < wr.heap.size := by omega
      have hql := HQ.out _ (List.getElem_mem hlt)
      clear ek
      obtain ⟨A', c', hu, -⟩ := hx.form
      subst hu
      obtain ⟨gx, rfl, gx1, gx2, cx, -⟩ := hx.cellAt hb l[k] hql
      have ey : xs.getD l[k] 0 = xs[l[k]] := getD_at hql
      rw [ey] at Hn
      clear ey
      have e0 := (hb.cell (p := ⟨bf, 0, none⟩) hbf).trans d0
      generalize xs[l[k]] = y at *
      generalize l[k] = q at *
      generalize leastP xs (l.take k) = r at *
      go_wp2_with fail
      with_reducible refine (leastFn_any r y q bf gx xs.length c' _ hql e0 cx).mono ?_
      rintro e w2 ⟨rfl, rfl⟩
      go_wp2
      go_roundw
      case rel => exact ⟨k + 1, by omega, by go_num, by rw [Hn.out], by (repeat (first | (with_reducible assumption) | (with_reducible exact Below.refl _ _) | ((with_reducible refine Below.alloc ?_ ?hsz _); (case hsz => (first | omega | (simp; done) | (simp; omega) | (simp at *; omega)))) | ((with_reducible refine Below.setCell ?_ ?hsz _); (case hsz => (first | omega | (simp; done) | (simp; omega) | (simp at *; omega)))) | (with_reducible refine Below.drew ?_) | (with_reducible refine below_drewN ?_ _) | ((with_reducible refine Below.trans ?_ (Below.mono (by with_reducible assumption) ?hsz)); (case hsz => (first | omega | (simp; done) | (simp; omega) | (simp at *; omega))))))⟩
      case measure => first | (simp [intOf]; done) | (simp [intOf]; omega)
    · have hkl : k = l.length := by omega
      subst hkl
      rw [List.take_length]
      go_wp2
      go_ret
      exact ⟨rfl, hb⟩

set_option maxHeartbeats 1000000 in
set_option maxRecDepth 20000 in
theorem leastIn_any (u v : Value) (l : List Nat) (xs : List Int) (b : Nat) (w : World) (hx : Ints w b u xs) (hl : Lies w v (natsI l)) (hq : ∀ q ∈ l, q < xs.length) (h6 : l.length ≤ 6) :
    Calls Try.prog 151 #[u, v] w fun e w' => e = .returned (.int .i64 (leastP xs l)) ∧ Below w.heap.size w w' := by
  have hx0 := hx
  have hl0 := hl
  obtain ⟨A, c, rfl, -, -, -, -⟩ := hx.form
  obtain ⟨g, o, cl, rfl, -, -, -, -⟩ := hl
  obtain ⟨m, hm⟩ : ∃ m, (natsI l).length = m := ⟨_, rfl⟩
  rw [hm] at hl0 ⊢
  clear hm
  go_enter Try.func151, Try.ntmps151
  go_wp2_with fail
  have hW : Below w.heap.size w (w.alloc (.cells #[.slice A xs.length c] 28)) := by (repeat (first | (with_reducible assumption) | (with_reducible exact Below.refl _ _) | ((with_reducible refine Below.alloc ?_ ?hsz _); (case hsz => (first | omega | (simp; done) | (simp; omega) | (simp at *; omega)))) | ((with_reducible refine Below.setCell ?_ ?hsz _); (case hsz => (first | omega | (simp; done) | (simp; omega) | (simp at *; omega)))) | (with_reducible refine Below.drew ?_) | (with_reducible refine below_drewN ?_ _) | ((with_reducible refine Below.trans ?_ (Below.mono (by with_reducible assumption) ?hsz)); (case hsz => (first | omega | (simp; done) | (simp; omega) | (simp at *; omega))))))
  have hF := foldLeast_any w.heap.size _ _ l xs b (w.alloc (.cells #[.slice A xs.length c] 28)) (hx0.keep hW) (hl0.keep hW) hq h6 (by simp) (by simp)
  with_reducible refine hF.mono ?_
  rintro e w1 ⟨rfl, hb1⟩
  go_wp2
  go_ret
  exact ⟨rfl, by (repeat (first | (with_reducible assumption) | (with_reducible exact Below.refl _ _) | ((with_reducible refine Below.alloc ?_ ?hsz _); (case hsz => (first | omega | (simp; done) | (simp; omega) | (simp at *; omega)))) | ((with_reducible refine Below.setCell ?_ ?hsz _); (case hsz => (first | omega | (simp; done) | (simp; omega) | (simp at *; omega)))) | (with_reducible refine Below.drew ?_) | (with_reducible refine below_drewN ?_ _) | ((with_reducible refine Below.trans ?_ (Below.mono (by with_reducible assumption) ?hsz)); (case hsz => (first | omega | (simp; done) | (simp; omega) | (simp at *; omega))))))⟩

set_option maxHeartbeats 1000000 in
set_option maxRecDepth 20000 in
theorem partRow_any (d : Int) (v : Value) (L : List Int) (w : World) (hl : Lies w v L) (h1 : 1 ≤ L.length) (h6 : L.length ≤ 6) :
    Calls Try.prog 152 #[.int .i64 d, v] w fun e w' => ∃ r, e = .returned r ∧ Ints w' w.heap.size r (d :: L) ∧ Below w.heap.size w w' := by
  have hL := hl.keep (w' := w.alloc (.cells #[.int .i64 d] 3)) (by (repeat (first | (with_reducible assumption) | (with_reducible exact Below.refl _ _) | ((with_reducible refine Below.alloc ?_ ?hsz _); (case hsz => (first | omega | (simp; done) | (simp; omega) | (simp at *; omega)))) | ((with_reducible refine Below.setCell ?_ ?hsz _); (case hsz => (first | omega | (simp; done) | (simp; omega) | (simp at *; omega)))) | (with_reducible refine Below.drew ?_) | (with_reducible refine below_drewN ?_ _) | ((with_reducible refine Below.trans ?_ (Below.mono (by with_reducible assumption) ?hsz)); (case hsz => (first | omega | (simp; done) | (simp; omega) | (simp at *; omega)))))))
  obtain ⟨g, o, cl, rfl, hg, hcl1, hcl2, -⟩ := hl
  unfold maxLen at hcl2
  obtain ⟨g9, o9, c9, hv9, -, -, -, hc9⟩ := hL
  injection hv9 with e1 e2 e3
  injection e1 with e1
  injection e1 with e1 e4
  subst e1
  subst e4
  have hnews := news_lies hc9
  obtain ⟨i0, hi0', hz0, hz1', hz2'⟩ := info_parts int_info
  have hown := World.ownsRow_lit (e := 3) (base := w.heap.size) (size := 1) w #[.int .i64 d] 1 (Nat.le_refl _) (by simp [maxLen]) rfl
  obtain ⟨m, hm⟩ : ∃ m, L.length = m := ⟨_, rfl⟩
  rw [hm] at hcl1 h1 h6 ⊢
  have HM := Lib.hid hm
  clear hm e2 e3
  go_enter Try.func152, Try.ntmps152
  go_wp2_with (first
    | (at_builtin
       go_must (refine wpList_append_lies _ rfl _ _ 28 rfl w.heap.size 3 i0 _ 1 8 Try.underlying28 hi0' hz0 hz1' hz2' rfl (by omega) (.slice (some ⟨w.heap.size, 0, none⟩) 1 1) 1 [.int .i64 d] rfl hown ⟨g, o, none⟩ m cl (L.map (Value.int .i64)) rfl (by rw [List.length_map, HM.out, Nat.mul_one]) hnews (by intro u' hu'; obtain ⟨y', -, rfl⟩ := List.mem_map.1 hu'; rfl) (by omega) (by unfold maxLen; omega) (by omega) (by simp) _ rfl ?_)
       intro g2 k2 w7 hown7 hgr7 hat7 hlt7))
  go_ret
  refine ⟨_, rfl, ⟨by rw [show (d :: L).length = 1 + m by rw [List.length_cons, HM.out]; omega]; exact hown7, by rw [List.length_cons, HM.out]; unfold small; omega⟩, ?_⟩
  exact Below.grown (w := w.alloc (.cells #[.int .i64 d] 3)) (by (repeat (first | (with_reducible assumption) | (with_reducible exact Below.refl _ _) | ((with_reducible refine Below.alloc ?_ ?hsz _); (case hsz => (first | omega | (simp; done) | (simp; omega) | (simp at *; omega)))) | ((with_reducible refine Below.setCell ?_ ?hsz _); (case hsz => (first | omega | (simp; done) | (simp; omega) | (simp at *; omega)))) | (with_reducible refine Below.drew ?_) | (with_reducible refine below_drewN ?_ _) | ((with_reducible refine Below.trans ?_ (Below.mono (by with_reducible assumption) ?hsz)); (case hsz => (first | omega | (simp; done) | (simp; omega) | (simp at *; omega))))))) hgr7 (by (first | omega | (simp; done) | (simp; omega) | (simp at *; omega))) (fun q hq => by have hq' : w.heap.size = q := (by injection hq); omega)

set_option maxHeartbeats 1000000 in
set_option maxRecDepth 20000 in
theorem takenFn_any (q ba g N cap B : Nat) (d : Int) (xs : List Int) (w : World) (hR : Row w B g N cap xs) (hq : q < N) (hy : -100 ≤ xs.getD q 0 ∧ xs.getD q 0 ≤ 100) (hd : 0 ≤ d ∧ d ≤ 40) (d0 : w.cell? ⟨ba, 0, none⟩ = some (.int .i64 d)) :
    Calls Try.prog 175 #[.slice (some ⟨g, 0, none⟩) N cap, .int .i64 q, .pointer (some ⟨ba, 0, none⟩)] w fun e w' => e = .returned (.slice (some ⟨g, 0, none⟩) N cap) ∧ Row w' B g N cap (xs.set q (xs.getD q 0 - d)) ∧ Below B w w' := by
  obtain ⟨y0, y1⟩ := hR.at' q hq
  obtain ⟨hg1, hg2⟩ := hR.lt
  obtain ⟨hcl1, hcl2⟩ := hR.capd
  unfold maxLen at hcl2
  obtain ⟨y, hyy⟩ : ∃ y, xs.getD q 0 = y := ⟨_, rfl⟩
  rw [hyy] at y0 hy
  have Hy := Lib.hid hyy
  have HR := Lib.hid hR
  clear hyy hR
  go_enter Try.func175, Try.ntmps175
  go_wp2_with fail
  go_region
  all_goals
    go_wp2
    go_ret
    exact ⟨rfl, by rw [Hy.out]; exact (HR.out.set q (y - d)).drew, by (repeat (first | (with_reducible assumption) | (with_reducible exact Below.refl _ _) | ((with_reducible refine Below.alloc ?_ ?hsz _); (case hsz => (first | omega | (simp; done) | (simp; omega) | (simp at *; omega)))) | ((with_reducible refine Below.setCell ?_ ?hsz _); (case hsz => (first | omega | (simp; done) | (simp; omega) | (simp at *; omega)))) | (with_reducible refine Below.drew ?_) | (with_reducible refine below_drewN ?_ _) | ((with_reducible refine Below.trans ?_ (Below.mono (by with_reducible assumption) ?hsz)); (case hsz => (first | omega | (simp; done) | (simp; omega) | (simp at *; omega))))))⟩

set_option maxHeartbeats 2000000 in
set_option maxRecDepth 20000 in
theorem foldTaken_any (ba gl N cap : Nat) (d : Int) (v : Value) (l : List Nat) (xs : List Int) (w0 w : World) (hb0 : Below w0.heap.size w0 w) (hl : Lies w0 v (natsI l)) (hR : Row w w0.heap.size gl N cap xs) (hq : ∀ q ∈ l, q < N) (h6 : l.length ≤ 6)
    (hbd : ∀ k i, -40 ≤ (lessP d xs (l.take k)).getD i 0 ∧ (lessP d xs (l.take k)).getD i 0 ≤ 40) (hd : 0 ≤ d ∧ d ≤ 40) (hba : ba < w0.heap.size) (d0 : w0.cell? ⟨ba, 0, none⟩ = some (.int .i64 d)) :
    Calls Try.prog 135 #[v, .slice (some ⟨gl, 0, none⟩) N cap, .func (Fn.func 175) #[] #[.pointer (some ⟨ba, 0, none⟩)]] w fun e w' => e = .returned (.slice (some ⟨gl, 0, none⟩) N cap) ∧ Row w' w0.heap.size gl N cap (lessP d xs l) ∧ Below w0.heap.size w0 w' := by
  obtain ⟨g, o, cl, rfl, hg, hcl1, hcl2, hcell⟩ := hl
  unfold maxLen at hcl2
  have hnl : (natsI l).length = l.length := by simp
  rw [hnl] at hcl1 ⊢
  have HC := Lib.hid hcell
  have HQ := Lib.hid hq
  have HNL := Lib.hid hnl
  have HB := Lib.hid hbd
  clear hcell hq hnl hbd
  go_enter Try.func135, Try.ntmps135
  go_wp2
  go_loopw [11, 1] (fun i t wr => ∃ k : Nat, k ≤ l.length ∧ i = .int .i64 k ∧ t = .slice (some ⟨gl, 0, none⟩) N cap ∧ Row wr w0.heap.size gl N cap (lessP d xs (l.take k)) ∧ Below w0.heap.size w0 wr) (fun i _ _ => l.length - (intOf i).toNat)
  case atStart => exact ⟨0, by omega, rfl, rfl, hR, hb0⟩
  case round =>
    clear hR hb0
    obtain ⟨k, hk, rfl, rfl, hR, hb⟩ := hrel
    have hzb := hb.size
    by_cases hlt : k < l.length
    · have cl0 := (hb.cell (p := ⟨g, o + k, none⟩) hg).trans (HC.out k (by rw [HNL.out]; exact hlt))
      have ek : (natsI l)[k]'(by rw [HNL.out]; exact hlt) = ((l[k] : Nat) : Int) := by simp
      rw [ek] at cl0
      have Hn := Lib.hid (less_snoc d xs l k hlt)
      have hgw : g < wr.heap.size := by omega
      have hql := HQ.out _ (List.getElem_mem hlt)
      have hbk := HB.out k l[k]
      have e0 := (hb.cell (p := ⟨ba, 0, none⟩) hba).trans d0
      clear ek
      generalize l[k] = q at *
      generalize lessP d xs (l.take k) = ys at *
      go_wp2_with fail
      with_reducible refine (takenFn_any q ba gl N cap w0.heap.size d ys _ hR hql (by omega) hd e0).mono ?_
      rintro e w2 ⟨rfl, hR2, hb2⟩
      rw [← Hn.out] at hR2
      have hbw2 := hb.trans hb2
      clear hR e0 cl0 hb hb2 hbk
      go_wp2
      go_roundw
      case rel => exact ⟨k + 1, by omega, by go_num, rfl, hR2, hbw2⟩
      case measure => first | (simp [intOf]; done) | (simp [intOf]; omega)
    · have hkl : k = l.length := by omega
      subst hkl
      rw [List.take_length] at hR
      go_wp2
      go_ret
      exact ⟨rfl, hR, hb⟩

set_option maxHeartbeats 1000000 in
set_option maxRecDepth 20000 in
theorem takenOut_any (d : Int) (u v : Value) (l : List Nat) (xs : List Int) (b : Nat) (w : World) (hx : Ints w b u xs) (hl : Lies w v (natsI l)) (hq : ∀ q ∈ l, q < xs.length) (h6 : l.length ≤ 6) (hnd : l.Nodup) (hxb : ∀ i, 0 ≤ xs.getD i 0 ∧ xs.getD i 0 ≤ 40) (hd : 0 ≤ d ∧ d ≤ 40) (h0 : 0 < xs.length) :
    Calls Try.prog 153 #[u, v, .int .i64 d] w fun e w' => ∃ r, e = .returned r ∧ Ints w' w.heap.size r (lessP d xs l) ∧ Below w.heap.size w w' := by
  have hx0 := hx
  have hl0 := hl
  obtain ⟨A, c, rfl, -, -, -, -⟩ := hx.form
  obtain ⟨g, o, cl, rfl, -, -, -, -⟩ := hl
  obtain ⟨m, hm⟩ : ∃ m, (natsI l).length = m := ⟨_, rfl⟩
  rw [hm] at hl0 ⊢
  have hxl : Hid (∀ k i, -40 ≤ (lessP d xs (l.take k)).getD i 0 ∧ (lessP d xs (l.take k)).getD i 0 ≤ 40) := Lib.hid (by
    intro k i
    rw [less_at d (l.take k) xs (hnd.sublist (List.take_sublist _ _)) (fun q hq' => hq q (List.mem_of_mem_take hq'))]
    have := hxb i
    split <;> omega)
  clear hm hxb hnd
  go_enter Try.func153, Try.ntmps153
  go_wp2_with fail
  with_reducible refine (clone_any _ xs b _ (hx0.keep (by (repeat (first | (with_reducible assumption) | (with_reducible exact Below.refl _ _) | ((with_reducible refine Below.alloc ?_ ?hsz _); (case hsz => (first | omega | (simp; done) | (simp; omega) | (simp at *; omega)))) | ((with_reducible refine Below.setCell ?_ ?hsz _); (case hsz => (first | omega | (simp; done) | (simp; omega) | (simp at *; omega)))) | (with_reducible refine Below.drew ?_) | (with_reducible refine below_drewN ?_ _) | ((with_reducible refine Below.trans ?_ (Below.mono (by with_reducible assumption) ?hsz)); (case hsz => (first | omega | (simp; done) | (simp; omega) | (simp at *; omega)))))))) h0).mono ?_
  rintro e w1 ⟨g2, cap, rfl, hR, hb1⟩
  go_wp2_with fail
  have hF := foldTaken_any w.heap.size g2 xs.length cap d _ l xs (w.alloc (.cells #[.int .i64 d] 3)) w1 hb1 (hl0.keep (by (repeat (first | (with_reducible assumption) | (with_reducible exact Below.refl _ _) | ((with_reducible refine Below.alloc ?_ ?hsz _); (case hsz => (first | omega | (simp; done) | (simp; omega) | (simp at *; omega)))) | ((with_reducible refine Below.setCell ?_ ?hsz _); (case hsz => (first | omega | (simp; done) | (simp; omega) | (simp at *; omega)))) | (with_reducible refine Below.drew ?_) | (with_reducible refine below_drewN ?_ _) | ((with_reducible refine Below.trans ?_ (Below.mono (by with_reducible assumption) ?hsz)); (case hsz => (first | omega | (simp; done) | (simp; omega) | (simp at *; omega)))))))) hR hq h6 hxl.out hd (by simp) (by simp)
  refine hF.mono ?_
  rintro e w2 ⟨rfl, hR2, hb2⟩
  go_wp2
  go_ret
  refine ⟨_, rfl, ?_, ((Below.refl _ _).alloc (Nat.le_refl _) _).trans (hb2.mono (by (first | omega | (simp; done) | (simp; omega) | (simp at *; omega))))⟩
  have := (hR2.mono (b' := w.heap.size) (by simp)).ints
  exact this

end Go.Proofs.Ytobbeofibkpbaaa

/- Contracts of the functions of chapter 4 in the program: a part, gone along from a node on. -/
namespace Go.Proofs.Ytobbeofibkpbaaa
open Go.RowKit

set_option maxHeartbeats 4000000 in
set_option maxRecDepth 20000 in
theorem partFrom_any (n a c2 : Int) (v u : Value) (ps : List Pp) (xs : List Int) (b b' : Nat) (w : World) (hp : Pipes w b v ps) (hx : Ints w b' u xs) (hlen : xs.length = ps.length) (hok : netOkB n ps = true) (a0 : 0 ≤ a) (a1 : a < n) (hac : a ≠ c2)
    (hnext : ∀ v, (v = a ∨ ∃ k, k < ps.length ∧ (ps.getD k zeroPp).to = v ∧ 0 < xs.getD k 0) → v ≠ c2 → ∃ q, nextP ps xs v = some q) :
    Calls Try.prog 150 #[v, u, .int .i64 a, .int .i64 c2] w fun e w' => ∃ r, e = .returned (.tuple #[r, .bool (decide (0 ≤ (walkP ps xs a c2).2))]) ∧ Lies w' r (natsI ((walkP ps xs a c2).1.drop (walkP ps xs a c2).2.toNat)) ∧ (∀ q, r.ownBlock = some q → w.heap.size ≤ q) ∧ Below w.heap.size w w' := by
  have hp0 := hp
  have hx0 := hx
  obtain ⟨A, c, rfl, hcp1, hcp2, hsp, -⟩ := hp.form
  obtain ⟨A0, c0, rfl, hc1, hc2, hsm, -⟩ := hx.form
  unfold maxLen at hc2 hcp2
  rw [hlen] at hx0 hc1 ⊢
  obtain ⟨n2, n5, hl7, hpo⟩ := netOk_parts hok
  obtain ⟨i0, hi0', hz0, hz1', hz2'⟩ := info_parts int_info
  have HP := Lib.hid (And.intro hlen (And.intro hpo hnext))
  have hRn : Row (w.alloc (.cells #[.int .i64 a] 3)) w.heap.size w.heap.size 1 1 [a] :=
    ⟨World.ownsRow_lit (e := 3) (base := w.heap.size) (size := 1) w #[.int .i64 a] 1 (Nat.le_refl _) (by simp [maxLen]) rfl, by simp [small]⟩
  have hst := walk_start (n := n) (ps := ps) (xs := xs) a0 a1
  clear hlen hpo hnext
  go_enter Try.func150, Try.ntmps150
  go_wp2
  go_loopw [10, 11, 12] (fun t10 t11 t12 wr => ∃ (nodes : List Int) (walk : List Nat) (W k1 g2 k2 : Nat) (A1 : Option Addr) (v0 : Int), walk.length = W ∧ t10 = .slice A1 W k1 ∧ t11 = .slice (some ⟨g2, 0, none⟩) (W + 1) k2 ∧ t12 = .int .i64 v0 ∧ (Value.slice A1 W k1).ownBlock ≠ some g2 ∧ walkSt n ps xs nodes walk ∧ nodes.getLastD 0 = v0 ∧ (v0 = a ∨ ∃ k, k < ps.length ∧ (ps.getD k zeroPp).to = v0 ∧ 0 < xs.getD k 0) ∧ v0 ≠ c2 ∧ (∀ x ∈ nodes, x ≠ c2) ∧ goP ps xs c2 (6 - W) nodes walk = walkP ps xs a c2 ∧ wr.ownsRow w.heap.size 3 1 (.slice A1 W k1) W ((natsI walk).map (Value.int .i64)) ∧ Row wr w.heap.size g2 (W + 1) k2 nodes ∧ Below w.heap.size w wr) (fun t10 _ _ _ => 6 - sliceLen t10)
  case atStart => exact ⟨[a], [], 0, 0, w.heap.size, 1, none, a, rfl, rfl, rfl, rfl, by simp [Value.ownBlock], hst, rfl, .inl rfl, hac, (by intro x hx; simp at hx; subst hx; exact hac), rfl, World.ownsRow_nil _ _ _ 1, hRn, by (repeat (first | (with_reducible assumption) | (with_reducible exact Below.refl _ _) | ((with_reducible refine Below.alloc ?_ ?hsz _); (case hsz => (first | omega | (simp; done) | (simp; omega) | (simp at *; omega)))) | ((with_reducible refine Below.setCell ?_ ?hsz _); (case hsz => (first | omega | (simp; done) | (simp; omega) | (simp at *; omega)))) | (with_reducible refine Below.drew ?_) | (with_reducible refine below_drewN ?_ _) | ((with_reducible refine Below.trans ?_ (Below.mono (by with_reducible assumption) ?hsz)); (case hsz => (first | omega | (simp; done) | (simp; omega) | (simp at *; omega))))))⟩
  case round =>
    clear hRn hst
    obtain ⟨nodes, walk, W, k1, g2, k2, A1, v0, hW, rfl, rfl, rfl, hg12, hst, hlast, hin, hvc, hall, hgo, hown, hR2, hB⟩ := hrel
    have HA := Lib.hid hall
    clear hall
    have hzb := hB.size
    have hfew := hst.few (by omega)
    have hnl : nodes.length = W + 1 := by rw [hst.1, hW]
    rw [hnl] at hfew
    obtain ⟨og1, og2⟩ := hR2.lt
    obtain ⟨cap1, cap2⟩ := hR2.capd
    have hcap2' := cap2
    unfold maxLen at cap2
    obtain ⟨q, hnx⟩ := HP.out.2.2 v0 hin hvc
    have e6 : 6 - W = (5 - W) + 1 := by omega
    obtain ⟨hql, hqf, hqx⟩ := next_parts hnx
    have hto : (ps.getD q zeroPp) = ps[q] := by simp [List.getD_eq_getElem?_getD, hql]
    obtain ⟨-, -, t0, t1, -⟩ := pipeOk_parts (HP.out.2.1 _ (List.getElem_mem hql))
    have HN := Lib.hid (show nextP ps xs (nodes.getLastD 0) = some q by rw [hlast]; exact hnx)
    have HQ := Lib.hid hqx
    have HS := Lib.hid (And.intro hst (And.intro hgo (And.intro hW hnl)))
    have HT := Lib.hid (And.intro hto (And.intro t0 t1))
    obtain ⟨v1, hv1⟩ : ∃ v1, ps[q].to = v1 := ⟨_, rfl⟩
    obtain ⟨gp, rfl, gp1, gp2, -⟩ := hp0.cellAt hB q hql
    have H1 := Lib.hid hv1
    clear hst hgo hW hnl hlast hin hvc hto t0 t1 hqf hqx hv1
    go_wp2_with fail
    with_reducible refine (nextPipe_any v0 q _ _ ps xs b b' _ (hp0.keep hB) (hx0.keep hB) hl7 HP.out.1 hnx).mono ?_
    rintro e w2 ⟨rfl, hb2⟩
    have hB2 : Below w.heap.size w w2 := hB.trans (hb2.mono hzb)
    have hs2 := hb2.size
    have hown2 := own_keep hown (Nat.le_refl _) hb2
    have hR22 := hR2.keep hb2
    have hrow : ∀ q', (Value.slice A1 W k1).ownBlock = some q' → w.heap.size ≤ q' := fun q' hq => (hown2.lt q' hq).1
    have hrow2 : ∀ q', (Value.slice A1 W k1).ownBlock = some q' → q' < w2.heap.size := fun q' hq => (hown2.lt q' hq).2
    clear hown hR2 hb2 hnx
    by_cases hvc : v1 = c2
    · have hvb : (v1 == c2) = true := by simpa using hvc
      have Hr : Hid (walkP ps xs a c2 = (walk ++ [q], -1)) := Lib.hid (by
        have hnin : (ps.getD q zeroPp).to ∉ nodes := by
          rw [HT.out.1, H1.out, hvc]
          exact fun hm => HA.out c2 hm rfl
        rw [← HS.out.2.1, e6]
        exact go_end HN.out hnin (by rw [HT.out.1, H1.out, hvc]))
      clear hvc
      go_wp2_with (first
        | (at_builtin
           go_must (refine wpList_append_lies _ rfl _ _ 28 rfl w.heap.size 3 i0 _ 1 8 Try.underlying28 hi0' hz0 hz1' hz2' rfl (by omega) (.slice A1 W k1) W _ rfl (hown2.alloc _) ⟨w2.heap.size, 0, none⟩ 1 1 [.int .i64 (q : Int)] rfl rfl (World.news_of_block (cs := #[.int .i64 (q : Int)]) (t := 3) (fr := (0, 0)) (heap_alloc_new _ _)) (by simp [Value.oneCell']) (by omega) (by unfold maxLen; omega) (by omega) (by simp; omega) _ rfl ?_)
           intro g3 k3 w7 hown7 hgr7 hat7 hlt7
           go_must (have hB7 : Below w.heap.size w2 w7 := Below.grown (w := w2.alloc (.cells #[.int .i64 (q : Int)] 3)) (by (repeat (first | (with_reducible assumption) | (with_reducible exact Below.refl _ _) | ((with_reducible refine Below.alloc ?_ ?hsz _); (case hsz => (first | omega | (simp; done) | (simp; omega) | (simp at *; omega)))) | ((with_reducible refine Below.setCell ?_ ?hsz _); (case hsz => (first | omega | (simp; done) | (simp; omega) | (simp at *; omega)))) | (with_reducible refine Below.drew ?_) | (with_reducible refine below_drewN ?_ _) | ((with_reducible refine Below.trans ?_ (Below.mono (by with_reducible assumption) ?hsz)); (case hsz => (first | omega | (simp; done) | (simp; omega) | (simp at *; omega))))))) hgr7 (by (first | omega | (simp; done) | (simp; omega) | (simp at *; omega))) hrow)
           go_must (have hBw7 : Below w.heap.size w w7 := hB2.trans hB7)
           go_must (have hR27 := (hR22.keep (w' := w2.alloc (.cells #[.int .i64 (q : Int)] 3)) (by (repeat (first | (with_reducible assumption) | (with_reducible exact Below.refl _ _) | ((with_reducible refine Below.alloc ?_ ?hsz _); (case hsz => (first | omega | (simp; done) | (simp; omega) | (simp at *; omega)))) | ((with_reducible refine Below.setCell ?_ ?hsz _); (case hsz => (first | omega | (simp; done) | (simp; omega) | (simp at *; omega)))) | (with_reducible refine Below.drew ?_) | (with_reducible refine below_drewN ?_ _) | ((with_reducible refine Below.trans ?_ (Below.mono (by with_reducible assumption) ?hsz)); (case hsz => (first | omega | (simp; done) | (simp; omega) | (simp at *; omega)))))))).grown hgr7 hg12)
           obtain ⟨gp', hgp', -, -, -, cto, -, -, -⟩ := hp0.cellAt hBw7 q hql
           go_must (have hgp'' : gp' = gp := (by injection hgp' with hgp'; injection hgp' with hgp'; exact hgp'.symm))
           subst hgp''
           rw [H1.out] at cto
           go_must (have hgpw : gp' < w7.heap.size := Nat.lt_of_lt_of_le gp2 hBw7.size)))
      have hs7 := hB7.size
      have hg32 : g3 ≠ g2 := by
        rcases hat7 with h | h
        · intro hh; subst hh; exact hg12 h
        · simp at h; omega
      have hR17 : Row w7 w.heap.size g3 (W + 1) k3 (natsI (walk ++ [q])) := ⟨by rw [natsI, List.map_append, List.map_append]; exact hown7, by simp [small]; omega⟩
      have hlw : (natsI (walk ++ [q])).length = W + 1 := by simp [HS.out.2.2.1]
      obtain ⟨cap3, cap4⟩ := hR17.capd
      have hcap4' := cap4
      unfold maxLen at cap4
      obtain ⟨oh1, oh2⟩ := hR17.lt
      clear hown7 hgr7 hat7 hown2 hrow hrow2 hR22
      refine bodyPost_ret (v := .tuple #[.slice (some ⟨g3, 0, none⟩) (W + 1) k3, .bool false]) (by simp [results, Try.results150, go_sem]) rfl ⟨.slice (some ⟨g3, 0, none⟩) (W + 1) k3, by rw [Hr.out]; rfl, ?_, fun q' hq' => by have hq2 : g3 = q' := (by injection hq'); omega, hBw7⟩
      rw [Hr.out]
      refine ⟨g3, 0, k3, by rw [← hlw]; rfl, oh2, by have := hlw; simp at this ⊢; omega, hcap4', fun jj hj => ?_⟩
      have hj2 : jj < W + 1 := by have := hlw; simp at this hj; omega
      rw [Nat.zero_add, (hR17.at' jj hj2).1, getD_at (by rw [hlw]; exact hj2)]
      rfl
    · have hvb : (v1 == c2) = false := by simpa using hvc
      have HVC := Lib.hid hvc
      clear hvc
      go_wp2_with (first
        | (at_builtin
           go_must (refine wpList_append_lies _ rfl _ _ 28 rfl w.heap.size 3 i0 _ 1 8 Try.underlying28 hi0' hz0 hz1' hz2' rfl (by omega) (.slice A1 W k1) W _ rfl (hown2.alloc _) ⟨w2.heap.size, 0, none⟩ 1 1 [.int .i64 (q : Int)] rfl rfl (World.news_of_block (cs := #[.int .i64 (q : Int)]) (t := 3) (fr := (0, 0)) (heap_alloc_new _ _)) (by simp [Value.oneCell']) (by omega) (by unfold maxLen; omega) (by omega) (by simp; omega) _ rfl ?_)
           intro g3 k3 w7 hown7 hgr7 hat7 hlt7
           go_must (have hB7 : Below w.heap.size w2 w7 := Below.grown (w := w2.alloc (.cells #[.int .i64 (q : Int)] 3)) (by (repeat (first | (with_reducible assumption) | (with_reducible exact Below.refl _ _) | ((with_reducible refine Below.alloc ?_ ?hsz _); (case hsz => (first | omega | (simp; done) | (simp; omega) | (simp at *; omega)))) | ((with_reducible refine Below.setCell ?_ ?hsz _); (case hsz => (first | omega | (simp; done) | (simp; omega) | (simp at *; omega)))) | (with_reducible refine Below.drew ?_) | (with_reducible refine below_drewN ?_ _) | ((with_reducible refine Below.trans ?_ (Below.mono (by with_reducible assumption) ?hsz)); (case hsz => (first | omega | (simp; done) | (simp; omega) | (simp at *; omega))))))) hgr7 (by (first | omega | (simp; done) | (simp; omega) | (simp at *; omega))) hrow)
           go_must (have hBw7 : Below w.heap.size w w7 := hB2.trans hB7)
           go_must (have hR27 := (hR22.keep (w' := w2.alloc (.cells #[.int .i64 (q : Int)] 3)) (by (repeat (first | (with_reducible assumption) | (with_reducible exact Below.refl _ _) | ((with_reducible refine Below.alloc ?_ ?hsz _); (case hsz => (first | omega | (simp; done) | (simp; omega) | (simp at *; omega)))) | ((with_reducible refine Below.setCell ?_ ?hsz _); (case hsz => (first | omega | (simp; done) | (simp; omega) | (simp at *; omega)))) | (with_reducible refine Below.drew ?_) | (with_reducible refine below_drewN ?_ _) | ((with_reducible refine Below.trans ?_ (Below.mono (by with_reducible assumption) ?hsz)); (case hsz => (first | omega | (simp; done) | (simp; omega) | (simp at *; omega)))))))).grown hgr7 hg12)
           obtain ⟨gp', hgp', -, -, -, cto, -, -, -⟩ := hp0.cellAt hBw7 q hql
           go_must (have hgp'' : gp' = gp := (by injection hgp' with hgp'; injection hgp' with hgp'; exact hgp'.symm))
           subst hgp''
           rw [H1.out] at cto
           go_must (have hgpw : gp' < w7.heap.size := Nat.lt_of_lt_of_le gp2 hBw7.size)))
      have hs7 := hB7.size
      have hg32 : g3 ≠ g2 := by
        rcases hat7 with h | h
        · intro hh; subst hh; exact hg12 h
        · simp at h; omega
      have hR17 : Row w7 w.heap.size g3 (W + 1) k3 (natsI (walk ++ [q])) := ⟨by rw [natsI, List.map_append, List.map_append]; exact hown7, by simp [small]; omega⟩
      have hlw : (natsI (walk ++ [q])).length = W + 1 := by simp [HS.out.2.2.1]
      obtain ⟨cap3, cap4⟩ := hR17.capd
      have hcap4' := cap4
      unfold maxLen at cap4
      obtain ⟨oh1, oh2⟩ := hR17.lt
      clear hown7 hgr7 hat7 hown2 hrow hrow2 hR22
      obtain ⟨on1, on2⟩ := hR27.lt
      have hnl2 := HS.out.2.2.2
      have hIx := indexPre_any v1 g2 (W + 1) k2 nodes w7 (fun jj hj => (hR27.at' jj hj).1) on2 (by rw [hnl2]; exact Nat.le_refl _) (by omega) cap1 hcap2'
      clear hnl2
      with_reducible refine hIx.mono ?_
      rintro e w8 ⟨r, rfl, hr, hb8⟩
      have hBw8 : Below w.heap.size w w8 := hBw7.trans (hb8.mono hBw7.size)
      have hs8 := hb8.size
      have hR18 := hR17.keep hb8
      have hR28 := hR27.keep hb8
      clear hIx hb8 hR17 hR27
      rcases hr with ⟨rfl, hnin⟩ | ⟨jj, rfl, hj1, hj2, hj3⟩
      · rw [List.take_of_length_le (by rw [HS.out.2.2.2]; exact Nat.le_refl _)] at hnin
        have hnin' : (ps.getD q zeroPp).to ∉ nodes := by rw [HT.out.1, H1.out]; exact hnin
        have hst' := HS.out.1.on HN.out hnin' (by rw [HT.out.1]; exact HT.out.2.1) (by rw [HT.out.1]; have := HT.out.2.2; omega)
        rw [HT.out.1, H1.out] at hst'
        have hgo' : goP ps xs c2 (6 - (W + 1)) (nodes ++ [v1]) (walk ++ [q]) = walkP ps xs a c2 := by
          rw [← HS.out.2.1, e6, go_on HN.out hnin' (by rw [HT.out.1, H1.out]; exact HVC.out), HT.out.1, H1.out]
          congr 1
          omega
        have hall' : ∀ x ∈ nodes ++ [v1], x ≠ c2 := by
          intro x hx
          rcases List.mem_append.1 hx with hx | hx
          · exact HA.out x hx
          · simp at hx; subst hx; exact HVC.out
        have HS' := Lib.hid (And.intro hst' (And.intro hgo' hall'))
        have hR2o := hR28.1
        have hrow : ∀ q', (Value.slice (some ⟨g2, 0, none⟩) (W + 1) k2).ownBlock = some q' → w.heap.size ≤ q' := fun q' hq => (hR2o.lt q' hq).1
        clear hst' hgo' hall' hnin hnin'
        go_wp2_with (first
          | (at_builtin
             go_must (refine wpList_append_lies _ rfl _ _ 28 rfl w.heap.size 3 i0 _ 1 8 Try.underlying28 hi0' hz0 hz1' hz2' rfl (by omega) (.slice (some ⟨g2, 0, none⟩) (W + 1) k2) (W + 1) _ rfl (hR2o.alloc _) ⟨w8.heap.size, 0, none⟩ 1 1 [.int .i64 v1] rfl rfl (World.news_of_block (cs := #[.int .i64 v1]) (t := 3) (fr := (0, 0)) (heap_alloc_new _ _)) (by simp [Value.oneCell']) (by omega) (by unfold maxLen; omega) (by omega) (by simp; omega) _ rfl ?_)
             intro g4 k4 w9 hown9 hgr9 hat9 hlt9))
        have hB9 : Below w.heap.size w8 w9 := Below.grown (w := w8.alloc (.cells #[.int .i64 v1] 3)) (by (repeat (first | (with_reducible assumption) | (with_reducible exact Below.refl _ _) | ((with_reducible refine Below.alloc ?_ ?hsz _); (case hsz => (first | omega | (simp; done) | (simp; omega) | (simp at *; omega)))) | ((with_reducible refine Below.setCell ?_ ?hsz _); (case hsz => (first | omega | (simp; done) | (simp; omega) | (simp at *; omega)))) | (with_reducible refine Below.drew ?_) | (with_reducible refine below_drewN ?_ _) | ((with_reducible refine Below.trans ?_ (Below.mono (by with_reducible assumption) ?hsz)); (case hsz => (first | omega | (simp; done) | (simp; omega) | (simp at *; omega))))))) hgr9 (by (first | omega | (simp; done) | (simp; omega) | (simp at *; omega))) hrow
        have hR19 := (hR18.keep (w' := w8.alloc (.cells #[.int .i64 v1] 3)) (by (repeat (first | (with_reducible assumption) | (with_reducible exact Below.refl _ _) | ((with_reducible refine Below.alloc ?_ ?hsz _); (case hsz => (first | omega | (simp; done) | (simp; omega) | (simp at *; omega)))) | ((with_reducible refine Below.setCell ?_ ?hsz _); (case hsz => (first | omega | (simp; done) | (simp; omega) | (simp at *; omega)))) | (with_reducible refine Below.drew ?_) | (with_reducible refine below_drewN ?_ _) | ((with_reducible refine Below.trans ?_ (Below.mono (by with_reducible assumption) ?hsz)); (case hsz => (first | omega | (simp; done) | (simp; omega) | (simp at *; omega)))))))).grown hgr9 (by intro hh; exact hg32 (by injection hh with hh; exact hh.symm))
        have hg34 : (Value.slice (some ⟨g3, 0, none⟩) (W + 1) k3).ownBlock ≠ some g4 := by
          intro hh
          have hh2 : g3 = g4 := by injection hh
          rcases hat9 with h | h
          · have hq : g2 = g4 := (by injection h)
            omega
          · simp at h; omega
        have hR29 : Row w9 w.heap.size g4 (W + 1 + 1) k4 (nodes ++ [v1]) := ⟨by rw [List.map_append]; exact hown9, by simp [small]; omega⟩
        have hBw9 : Below w.heap.size w w9 := hBw8.trans hB9
        clear hown9 hgr9 hat9 hR28 hR2o hrow
        go_roundw
        case rel => exact ⟨nodes ++ [v1], walk ++ [q], W + 1, k3, g4, k4, some ⟨g3, 0, none⟩, v1, by rw [List.length_append, HS.out.2.2.1]; rfl, rfl, rfl, rfl, hg34, HS'.out.1, by simp, .inr ⟨q, hql, by rw [HT.out.1, H1.out], HQ.out⟩, HVC.out, HS'.out.2.2, HS'.out.2.1, hR19.1, hR29, hBw9⟩
        case measure => simp [sliceLen]; omega
      · have Hr : Hid (walkP ps xs a c2 = (walk ++ [q], (jj : Int))) := Lib.hid (by
          rw [← HS.out.2.1, e6]
          have hin : (ps.getD q zeroPp).to ∈ nodes := by
            rw [HT.out.1, H1.out]
            exact in_of (i := jj) (by rw [HS.out.2.2.2]; exact hj1) hj2
          rw [go_close HN.out hin, HT.out.1, H1.out, idxOf_at nodes v1 jj (by rw [HS.out.2.2.2]; exact hj1) hj2 (fun q' hq' he => hj3 (by
            rw [List.mem_take_iff_getElem]
            exact ⟨q', by have := HS.out.2.2.2; omega, by rw [← he, getD_at (by have := HS.out.2.2.2; omega)]⟩))])
        have hk3j : k3 ≠ jj := by omega
        have hj4 : (jj : Int) ≤ ((W + 1 : Nat) : Int) := by omega
        have hml : (natsI ((walk ++ [q]).drop jj)).length = W + 1 - jj := by simp [HS.out.2.2.1]
        clear hj2 hj3
        go_wp2
        all_goals
          refine bodyPost_ret (v := .tuple #[.slice (some ⟨g3, jj, none⟩) (W + 1 - jj) (k3 - jj), .bool true]) (by simp [results, Try.results150, go_sem]) rfl ⟨.slice (some ⟨g3, jj, none⟩) (W + 1 - jj) (k3 - jj), by rw [Hr.out]; simp, ?_, fun q' hq' => by have hq2 : g3 = q' := (by injection hq'); omega, hBw8⟩
          rw [Hr.out]
          have hL : Lies w8 (.slice (some ⟨g3, jj, none⟩) (W + 1 - jj) (k3 - jj)) (natsI ((walk ++ [q]).drop jj)) := by
            refine ⟨g3, jj, k3 - jj, by rw [hml], by omega, by rw [hml]; omega, by unfold maxLen at *; omega, fun i hi => ?_⟩
            have hi2 : jj + i < W + 1 := by rw [hml] at hi; omega
            rw [(hR18.at' (jj + i) hi2).1, getD_at (by rw [hlw]; exact hi2)]
            simp [natsI]
          simpa using hL

end Go.Proofs.Ytobbeofibkpbaaa
