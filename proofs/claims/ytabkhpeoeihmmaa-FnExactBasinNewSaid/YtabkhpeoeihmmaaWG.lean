/- Contracts of the functions of chapter 3 in the program: pushes along a way. -/
import Derived.Test.YtabkhpeoeihmmaaWF
import Derived.Deep.DeepCutAuto
import Derived.Deep.RegionWith
import Derived.Lib.BufferMore
namespace Go.Proofs.Ytabkhpeoeihmmaa
open Go.RowKit

set_option maxHeartbeats 2000000 in
set_option maxRecDepth 20000 in
theorem pushFn_any (s ba g N cap B : Nat) (d : Int) (xs : List Int) (w : World) (hR : Row w B g N cap xs) (hs : s / 2 < N) (hN : N ≤ 7) (hbd : ∀ j, 0 ≤ xs.getD j 0 ∧ xs.getD j 0 ≤ 40) (hd : 0 ≤ d ∧ d ≤ 40) (d0 : w.cell? ⟨ba, 0, none⟩ = some (.int .i64 d)) :
    Calls Try.prog 144 #[.slice (some ⟨g, 0, none⟩) N cap, .int .i64 s, .pointer (some ⟨ba, 0, none⟩)] w fun e w' => e = .returned (.slice (some ⟨g, 0, none⟩) N cap) ∧ Row w' B g N cap (push1 d xs s) ∧ Below B w w' := by
  obtain ⟨k, hk⟩ : ∃ k, s / 2 = k := ⟨_, rfl⟩
  rw [hk] at hs
  obtain ⟨y0, y1⟩ := hR.at' k hs
  obtain ⟨hg1, hg2⟩ := hR.lt
  obtain ⟨hcl1, hcl2⟩ := hR.capd
  unfold maxLen at hcl2
  have hx := hbd k
  obtain ⟨x, hxx⟩ : ∃ x, xs.getD k 0 = x := ⟨_, rfl⟩
  rw [hxx] at y0 hx
  have hq : (s : Int) / 2 = (k : Int) := by omega
  have hq2 : (s : Int).tdiv 2 = (k : Int) := by rw [Int.tdiv_eq_ediv_of_nonneg (Int.natCast_nonneg s)]; exact hq
  have hq3 : IntKind.i64.wrap (k : Int) = (k : Int) := IntWalk.i64_in _ (by omega)
  have hq4 : (0 : Int) ≤ (k : Int) := by omega
  clear hbd
  rcases (show s % 2 = 1 ∨ s % 2 = 0 by omega) with hm | hm
  · have hdd := Lib.hid (show decide (s % 2 = 1) = true by simp [hm])
    have Hp := Lib.hid (show push1 d xs s = xs.set k (x - d) by rw [push1, if_pos hm, hk, hxx])
    have HR := Lib.hid hR
    clear hm hk hR hxx
    go_enter Try.func144, Try.ntmps144
    go_upto_region 2 with (first | (go_at_call 137; ((with_reducible refine (stepBack_any s _ true hdd.out (by omega)).mono ?_); rintro e w1 ⟨rfl, rfl⟩)))
    go_region
    all_goals
      go_wp2
      go_ret
      exact ⟨rfl, by rw [Hp.out]; exact (HR.out.set k (x - d)).drew, by (repeat (first | (with_reducible assumption) | (with_reducible exact Below.refl _ _) | ((with_reducible refine Below.alloc ?_ ?hsz _); (case hsz => (first | omega | (simp; done) | (simp; omega) | (simp at *; omega)))) | ((with_reducible refine Below.setCell ?_ ?hsz _); (case hsz => (first | omega | (simp; done) | (simp; omega) | (simp at *; omega)))) | (with_reducible refine Below.drew ?_) | (with_reducible refine below_drewN ?_ _) | ((with_reducible refine Below.trans ?_ (Below.mono (by with_reducible assumption) ?hsz)); (case hsz => (first | omega | (simp; done) | (simp; omega) | (simp at *; omega))))))⟩
  · have hdd := Lib.hid (show decide (s % 2 = 1) = false by simp [hm])
    have Hp := Lib.hid (show push1 d xs s = xs.set k (x + d) by rw [push1, if_neg (by omega), hk, hxx])
    have HR := Lib.hid hR
    clear hm hk hR hxx
    go_enter Try.func144, Try.ntmps144
    go_upto_region 3 with (first | (go_at_call 137; ((with_reducible refine (stepBack_any s _ false hdd.out (by omega)).mono ?_); rintro e w1 ⟨rfl, rfl⟩)))
    go_region
    all_goals
      go_wp2
      go_ret
      exact ⟨rfl, by rw [Hp.out]; exact (HR.out.set k (x + d)).drew, by (repeat (first | (with_reducible assumption) | (with_reducible exact Below.refl _ _) | ((with_reducible refine Below.alloc ?_ ?hsz _); (case hsz => (first | omega | (simp; done) | (simp; omega) | (simp at *; omega)))) | ((with_reducible refine Below.setCell ?_ ?hsz _); (case hsz => (first | omega | (simp; done) | (simp; omega) | (simp at *; omega)))) | (with_reducible refine Below.drew ?_) | (with_reducible refine below_drewN ?_ _) | ((with_reducible refine Below.trans ?_ (Below.mono (by with_reducible assumption) ?hsz)); (case hsz => (first | omega | (simp; done) | (simp; omega) | (simp at *; omega))))))⟩

set_option maxHeartbeats 2000000 in
set_option maxRecDepth 20000 in
theorem foldPush_any (ba gl N cap b0 : Nat) (d : Int) (u0 : Value) (l : List Nat) (ps : List Pp) (xs : List Int) (w0 w : World) (hb0 : Below w0.heap.size w0 w) (h0 : Ints w0 b0 u0 (ofS l)) (hR : Row w w0.heap.size gl N cap xs) (hN : N = ps.length) (hl7 : ps.length ≤ 7)
    (hs : ∀ s ∈ l, s < 2 * ps.length) (hbd : ∀ k j, 0 ≤ (pushL d xs (l.take k)).getD j 0 ∧ (pushL d xs (l.take k)).getD j 0 ≤ 40) (hd : 0 ≤ d ∧ d ≤ 40) (hba : ba < w0.heap.size) (d0 : w0.cell? ⟨ba, 0, none⟩ = some (.int .i64 d)) :
    Calls Try.prog 143 #[u0, .slice (some ⟨gl, 0, none⟩) N cap, .func (Fn.func 144) #[] #[.pointer (some ⟨ba, 0, none⟩)]] w fun e w' => e = .returned (.slice (some ⟨gl, 0, none⟩) N cap) ∧ Row w' w0.heap.size gl N cap (pushL d xs l) ∧ Below w0.heap.size w0 w' := by
  obtain ⟨A, c, rfl, hc1, hc2, hsm, hcell⟩ := h0.form
  unfold maxLen at hc2
  have hlS : (ofS l).length = l.length := by simp
  rw [hlS] at hc1 hsm ⊢
  have hlS := Lib.hid hlS
  have HB := Lib.hid hbd
  have HS := Lib.hid hs
  have HNN := Lib.hid hN
  clear hbd hs hN
  go_enter Try.func143, Try.ntmps143
  go_wp2
  go_loopw [11, 1] (fun i t wr => ∃ k : Nat, k ≤ l.length ∧ i = .int .i64 k ∧ t = .slice (some ⟨gl, 0, none⟩) N cap ∧ Row wr w0.heap.size gl N cap (pushL d xs (l.take k)) ∧ Below w0.heap.size w0 wr) (fun i _ _ => l.length - (intOf i).toNat)
  case atStart => exact ⟨0, by omega, rfl, rfl, hR, hb0⟩
  case round =>
    clear hR hb0
    obtain ⟨k, hk, rfl, rfl, hR, hb⟩ := hrel
    by_cases hlt : k < l.length
    · obtain ⟨g, rfl, hg1, hg2, c0, -⟩ := hcell wr hb k (by rw [hlS.out]; exact hlt)
      have c0' : wr.cell? ⟨g, k, none⟩ = some (.int .i64 (l[k] : Nat)) := by rw [c0]; simp
      have hsk := HS.out _ (List.getElem_mem hlt)
      have Hn := Lib.hid (pushL_snoc d xs l k hlt)
      have hbk := HB.out k
      generalize pushL d xs (l.take k) = ys at *
      clear c0
      have e0 := (hb.cell (p := ⟨ba, 0, none⟩) hba).trans d0
      go_wp2_with fail
      with_reducible refine (pushFn_any l[k] ba gl N cap w0.heap.size d ys _ hR (by have := HNN.out; omega) (by have := HNN.out; omega) hbk hd e0).mono ?_
      rintro e w2 ⟨rfl, hR2, hb2⟩
      rw [← Hn.out] at hR2
      clear hR e0 c0'
      have hbw2 := hb.trans hb2
      clear hb hb2 hbk
      go_wp2
      go_roundw
      case rel => exact ⟨k + 1, by omega, by go_num, rfl, hR2, hbw2⟩
      case measure => simp [intOf]; omega
    · have hk2 : k = l.length := by omega
      subst hk2
      rw [List.take_length] at hR
      go_wp2
      go_ret
      exact ⟨rfl, hR, hb⟩

set_option maxHeartbeats 1000000 in
set_option maxRecDepth 20000 in
theorem clone_any (v : Value) (xs : List Int) (b : Nat) (w : World) (hx : Ints w b v xs) (h0 : 0 < xs.length) :
    Calls Try.prog 95 #[v] w fun e w' => ∃ g cap, e = .returned (.slice (some ⟨g, 0, none⟩) xs.length cap) ∧ Row w' w.heap.size g xs.length cap xs ∧ Below w.heap.size w w' := by
  obtain ⟨g, cap, rfl, hR⟩ := hx.row h0
  obtain ⟨hg1, hg2⟩ := hR.lt
  obtain ⟨hcl1, hcl2⟩ := hR.capd
  obtain ⟨i0, hi0, hz0, hz1, hz2⟩ := info_parts int_info
  have hsm := hR.2
  have hnews : Hid (∀ j u, (xs.map (Value.int .i64))[j]? = some u → (w.alloc (.cells #[] 3)).cell? ((⟨g, 0, none⟩ : Addr).add j) = some u) := Lib.hid (by
    intro j u hj
    have hjl : j < xs.length := by
      have := (List.getElem?_eq_some_iff.1 hj).1
      simpa using this
    rw [add_plain, Nat.zero_add]
    refine (World.cell?_alloc_lt _ _ _ (by simpa using hg2)).trans ?_
    rw [(hR.at' j hjl).1, ← hj]
    simp [List.getD_eq_getElem?_getD, hjl])
  have hnil : ∀ W : World, (binOp .eql 25 (.slice (some ⟨g, 0, none⟩) xs.length cap) (.slice none 0 0)).run Try.prog W = .ok (.bool false) W := fun W => Lib.run_eql_slice_some_nil W _ _ _ Try.underlying25
  have hown0 := World.ownsRow_lit (e := 3) (base := w.heap.size) (size := 1) w #[] 0 (Nat.le_refl _) (by simp [maxLen]) rfl
  go_enter Try.func95, Try.ntmps95
  go_wp2_with (first
    | (at_builtin
       go_must (refine wpList_append_lies _ rfl _ _ 25 rfl w.heap.size 3 i0 _ 1 8 Try.underlying25 hi0 hz0 hz1 hz2 rfl (by omega) _ 0 [] rfl hown0 ⟨g, 0, none⟩ xs.length cap (xs.map (Value.int .i64)) rfl (by simp) hnews.out (by simp [Value.oneCell']) h0 (by unfold maxLen small at *; omega) (by unfold small at *; omega) (by simp) _ rfl ?_)
       intro g2 k2 w7 hown7 hgr7 hat7 hlt7))
  go_ret
  rw [Nat.zero_add, List.nil_append] at hown7
  refine ⟨g2, k2, rfl, ⟨hown7, hsm⟩, ?_⟩
  exact Below.grown (w := w.alloc (.cells #[] 3)) (by (repeat (first | (with_reducible assumption) | (with_reducible exact Below.refl _ _) | ((with_reducible refine Below.alloc ?_ ?hsz _); (case hsz => (first | omega | (simp; done) | (simp; omega) | (simp at *; omega)))) | ((with_reducible refine Below.setCell ?_ ?hsz _); (case hsz => (first | omega | (simp; done) | (simp; omega) | (simp at *; omega)))) | (with_reducible refine Below.drew ?_) | (with_reducible refine below_drewN ?_ _) | ((with_reducible refine Below.trans ?_ (Below.mono (by with_reducible assumption) ?hsz)); (case hsz => (first | omega | (simp; done) | (simp; omega) | (simp at *; omega))))))) hgr7 (by (first | omega | (simp; done) | (simp; omega) | (simp at *; omega))) (fun q hq => by
    have hq' : w.heap.size = q := by injection hq
    omega)

set_option maxHeartbeats 1000000 in
set_option maxRecDepth 20000 in
theorem pushedAlong_any (u0 u : Value) (l : List Nat) (ps : List Pp) (xs : List Int) (b b0 : Nat) (d : Int) (w : World) (h0 : Ints w b0 u0 (ofS l)) (hx : Ints w b u xs) (hN : xs.length = ps.length) (hl7 : ps.length ≤ 7) (hpos : 0 < xs.length)
    (hs : ∀ s ∈ l, s < 2 * ps.length) (hbd : ∀ k j, 0 ≤ (pushL d xs (l.take k)).getD j 0 ∧ (pushL d xs (l.take k)).getD j 0 ≤ 40) (hd : 0 ≤ d ∧ d ≤ 40) :
    Calls Try.prog 135 #[u, u0, .int .i64 d] w fun e w' => ∃ r, e = .returned r ∧ Ints w' w.heap.size r (pushL d xs l) ∧ Below w.heap.size w w' := by
  have hx0 := hx
  have h00 := h0
  obtain ⟨A, c, rfl, -, -, -, -⟩ := hx.form
  obtain ⟨A0, c0, rfl, -, -, -, -⟩ := h0.form
  obtain ⟨m0, hm0⟩ : ∃ m, (ofS l).length = m := ⟨_, rfl⟩
  rw [hm0] at h00 ⊢
  clear h0 hm0 hx
  have HB := Lib.hid hbd
  have HS := Lib.hid hs
  have HN := Lib.hid hN
  clear hbd hs hN
  go_enter Try.func135, Try.ntmps135
  go_wp2_with fail
  with_reducible refine (clone_any _ xs b _ (hx0.keep (by (repeat (first | (with_reducible assumption) | (with_reducible exact Below.refl _ _) | ((with_reducible refine Below.alloc ?_ ?hsz _); (case hsz => (first | omega | (simp; done) | (simp; omega) | (simp at *; omega)))) | ((with_reducible refine Below.setCell ?_ ?hsz _); (case hsz => (first | omega | (simp; done) | (simp; omega) | (simp at *; omega)))) | (with_reducible refine Below.drew ?_) | (with_reducible refine below_drewN ?_ _) | ((with_reducible refine Below.trans ?_ (Below.mono (by with_reducible assumption) ?hsz)); (case hsz => (first | omega | (simp; done) | (simp; omega) | (simp at *; omega)))))))) hpos).mono ?_
  rintro e w1 ⟨g, cap, rfl, hR, hb1⟩
  go_wp2_with fail
  refine (foldPush_any w.heap.size g xs.length cap b0 d _ l ps xs (w.alloc (.cells #[.int .i64 d] 3)) w1 hb1 (h00.keep (by (repeat (first | (with_reducible assumption) | (with_reducible exact Below.refl _ _) | ((with_reducible refine Below.alloc ?_ ?hsz _); (case hsz => (first | omega | (simp; done) | (simp; omega) | (simp at *; omega)))) | ((with_reducible refine Below.setCell ?_ ?hsz _); (case hsz => (first | omega | (simp; done) | (simp; omega) | (simp at *; omega)))) | (with_reducible refine Below.drew ?_) | (with_reducible refine below_drewN ?_ _) | ((with_reducible refine Below.trans ?_ (Below.mono (by with_reducible assumption) ?hsz)); (case hsz => (first | omega | (simp; done) | (simp; omega) | (simp at *; omega)))))))) hR HN.out hl7 HS.out HB.out hd (by (first | omega | (simp; done) | (simp; omega) | (simp at *; omega))) (by go_simp)).mono ?_
  rintro e w2 ⟨rfl, hR2, hb2⟩
  go_wp2
  go_ret
  exact ⟨_, rfl, (hR2.mono (by (first | omega | (simp; done) | (simp; omega) | (simp at *; omega)))).ints, ((Below.refl _ _).alloc (Nat.le_refl _) _).trans (hb2.mono (by (first | omega | (simp; done) | (simp; omega) | (simp at *; omega))))⟩

end Go.Proofs.Ytabkhpeoeihmmaa
