/- Plain facts. -/
import Derived.Test.YtphbmlephldaaaaWF
import Derived.Deep.DeepCutAuto
import Derived.Deep.RegionWith
import Derived.Lib.BufferMore
import Derived.Test.YtphbmlephldaaaaGN13
/- Contracts of the functions of chapter 3 in the program: pushes along a way. -/
namespace Go.Proofs.Ytphbmlephldaaaa
open Go.RowKit

set_option maxHeartbeats 2000000 in
set_option maxRecDepth 20000 in
theorem pushFn_any (s ba g N cap B : Nat) (d : Int) (xs : List Int) (w : World) (hR : Row w B g N cap xs) (hs : s / 2 < N) (hN : N ≤ 7) (hbd : ∀ j, 0 ≤ xs.getD j 0 ∧ xs.getD j 0 ≤ 40) (hd : 0 ≤ d ∧ d ≤ 40) (d0 : w.cell? ⟨ba, 0, none⟩ = some (.int .i64 d)) :
    Calls Try.prog 138 #[.slice (some ⟨g, 0, none⟩) N cap, .int .i64 s, .pointer (some ⟨ba, 0, none⟩)] w fun e w' => e = .returned (.slice (some ⟨g, 0, none⟩) N cap) ∧ Row w' B g N cap (push1 d xs s) ∧ Below B w w' := by
  obtain ⟨k, hk⟩ : ∃ k, s / 2 = k := ⟨_, rfl⟩
  rw [hk] at hs
  obtain ⟨y0, y1⟩ := hR.at' k hs
  obtain ⟨hg1, hg2⟩ := hR.lt
  obtain ⟨hcl1, hcl2⟩ := hR.capd
  unfold maxLen at hcl2
  have hx := hbd k
  obtain ⟨x, hxx⟩ : ∃ x, xs.getD k 0 = x := ⟨_, rfl⟩
  rw [hxx] at y0 hx
  have hq : (s : Int) / 2 = (k : Int) := by omega
  have hq2 : (s : Int).tdiv 2 = (k : Int) := by rw [Int.tdiv_eq_ediv_of_nonneg (Int.natCast_nonneg s)]; exact hq
  have hq3 : IntKind.i64.wrap (k : Int) = (k : Int) := IntWalk.i64_in _ (by omega)
  have hq4 : (0 : Int) ≤ (k : Int) := by omega
  clear hbd
  rcases (show s % 2 = 1 ∨ s % 2 = 0 by omega) with hm | hm
  · have hdd := Lib.hid (show decide (s % 2 = 1) = true by simp [hm])
    have Hp := Lib.hid (show push1 d xs s = xs.set k (x - d) by rw [push1, if_pos hm, hk, hxx])
    have HR := Lib.hid hR
    clear hm hk hR hxx
    go_enter Try.func138, Try.ntmps138
    go_upto_region 2 with (first | (go_at_call 139; ((with_reducible refine (stepBack_any s _ true hdd.out (by omega)).mono ?_); rintro e w1 ⟨rfl, rfl⟩)))
    go_region
    all_goals
      go_wp2
      go_ret
      exact ⟨rfl, by rw [Hp.out]; exact (HR.out.set k (x - d)).drew, by (repeat (first | (with_reducible assumption) | (with_reducible exact Below.refl _ _) | ((with_reducible refine Below.alloc ?_ ?hsz _); (case hsz => (first | omega | (simp; done) | (simp; omega) | (simp at *; omega)))) | ((with_reducible refine Below.setCell ?_ ?hsz _); (case hsz => (first | omega | (simp; done) | (simp; omega) | (simp at *; omega)))) | (with_reducible refine Below.drew ?_) | (with_reducible refine below_drewN ?_ _) | ((with_reducible refine Below.trans ?_ (Below.mono (by with_reducible assumption) ?hsz)); (case hsz => (first | omega | (simp; done) | (simp; omega) | (simp at *; omega))))))⟩
  · have hdd := Lib.hid (show decide (s % 2 = 1) = false by simp [hm])
    have Hp := Lib.hid (show push1 d xs s = xs.set k (x + d) by rw [push1, if_neg (by omega), hk, hxx])
    have HR := Lib.hid hR
    clear hm hk hR hxx
    go_enter Try.func138, Try.ntmps138
    go_upto_region 3 with (first | (go_at_call 139; ((with_reducible refine (stepBack_any s _ false hdd.out (by omega)).mono ?_); rintro e w1 ⟨rfl, rfl⟩)))
    go_region
    all_goals
      go_wp2
      go_ret
      exact ⟨rfl, by rw [Hp.out]; exact (HR.out.set k (x + d)).drew, by (repeat (first | (with_reducible assumption) | (with_reducible exact Below.refl _ _) | ((with_reducible refine Below.alloc ?_ ?hsz _); (case hsz => (first | omega | (simp; done) | (simp; omega) | (simp at *; omega)))) | ((with_reducible refine Below.setCell ?_ ?hsz _); (case hsz => (first | omega | (simp; done) | (simp; omega) | (simp at *; omega)))) | (with_reducible refine Below.drew ?_) | (with_reducible refine below_drewN ?_ _) | ((with_reducible refine Below.trans ?_ (Below.mono (by with_reducible assumption) ?hsz)); (case hsz => (first | omega | (simp; done) | (simp; omega) | (simp at *; omega))))))⟩

set_option maxHeartbeats 2000000 in
set_option maxRecDepth 20000 in
theorem foldPush_any (ba gl N cap b0 : Nat) (d : Int) (u0 : Value) (l : List Nat) (ps : List Pp) (xs : List Int) (w0 w : World) (hb0 : Below w0.heap.size w0 w) (h0 : Ints w0 b0 u0 (ofS l)) (hR : Row w w0.heap.size gl N cap xs) (hN : N = ps.length) (hl7 : ps.length ≤ 7)
    (hs : ∀ s ∈ l, s < 2 * ps.length) (hbd : ∀ k j, 0 ≤ (pushL d xs (l.take k)).getD j 0 ∧ (pushL d xs (l.take k)).getD j 0 ≤ 40) (hd : 0 ≤ d ∧ d ≤ 40) (hba : ba < w0.heap.size) (d0 : w0.cell? ⟨ba, 0, none⟩ = some (.int .i64 d)) :
    Calls Try.prog 137 #[u0, .slice (some ⟨gl, 0, none⟩) N cap, .func (Fn.func 138) #[] #[.pointer (some ⟨ba, 0, none⟩)]] w fun e w' => e = .returned (.slice (some ⟨gl, 0, none⟩) N cap) ∧ Row w' w0.heap.size gl N cap (pushL d xs l) ∧ Below w0.heap.size w0 w' := by
  obtain ⟨A, c, rfl, hc1, hc2, hsm, hcell⟩ := h0.form
  unfold maxLen at hc2
  have hlS : (ofS l).length = l.length := by simp
  rw [hlS] at hc1 hsm ⊢
  have hlS := Lib.hid hlS
  have HB := Lib.hid hbd
  have HS := Lib.hid hs
  have HNN := Lib.hid hN
  clear hbd hs hN
  go_enter Try.func137, Try.ntmps137
  go_wp2
  go_loopw [11, 1] (fun i t wr => ∃ k : Nat, k ≤ l.length ∧ i = .int .i64 k ∧ t = .slice (some ⟨gl, 0, none⟩) N cap ∧ Row wr w0.heap.size gl N cap (pushL d xs (l.take k)) ∧ Below w0.heap.size w0 wr) (fun i _ _ => l.length - (intOf i).toNat)
  case atStart => exact ⟨0, by omega, rfl, rfl, hR, hb0⟩
  case round =>
    clear hR hb0
    obtain ⟨k, hk, rfl, rfl, hR, hb⟩ := hrel
    by_cases hlt : k < l.length
    · obtain ⟨g, rfl, hg1, hg2, c0, -⟩ := hcell wr hb k (by rw [hlS.out]; exact hlt)
      have c0' : wr.cell? ⟨g, k, none⟩ = some (.int .i64 (l[k] : Nat)) := by rw [c0]; simp
      have hsk := HS.out _ (List.getElem_mem hlt)
      have Hn := Lib.hid (pushL_snoc d xs l k hlt)
      have hbk := HB.out k
      generalize pushL d xs (l.take k) = ys at *
      clear c0
      have e0 := (hb.cell (p := ⟨ba, 0, none⟩) hba).trans d0
      go_wp2_with fail
      with_reducible refine (pushFn_any l[k] ba gl N cap w0.heap.size d ys _ hR (by have := HNN.out; omega) (by have := HNN.out; omega) hbk hd e0).mono ?_
      rintro e w2 ⟨rfl, hR2, hb2⟩
      rw [← Hn.out] at hR2
      clear hR e0 c0'
      have hbw2 := hb.trans hb2
      clear hb hb2 hbk
      go_wp2
      go_roundw
      case rel => exact ⟨k + 1, by omega, by go_num, rfl, hR2, hbw2⟩
      case measure => simp [intOf]; omega
    · have hk2 : k = l.length := by omega
      subst hk2
      rw [List.take_length] at hR
      go_wp2
      go_ret
      exact ⟨rfl, hR, hb⟩

set_option maxHeartbeats 1000000 in
set_option maxRecDepth 20000 in
theorem clone_any (v : Value) (xs : List Int) (b : Nat) (w : World) (hx : Ints w b v xs) (h0 : 0 < xs.length) :
    Calls Try.prog 105 #[v] w fun e w' => ∃ g cap, e = .returned (.slice (some ⟨g, 0, none⟩) xs.length cap) ∧ Row w' w.heap.size g xs.length cap xs ∧ Below w.heap.size w w' := by
  obtain ⟨g, cap, rfl, hR⟩ := hx.row h0
  obtain ⟨hg1, hg2⟩ := hR.lt
  obtain ⟨hcl1, hcl2⟩ := hR.capd
  obtain ⟨i0, hi0, hz0, hz1, hz2⟩ := info_parts int_info
  have hsm := hR.2
  have hnews : Hid (∀ j u, (xs.map (Value.int .i64))[j]? = some u → (w.alloc (.cells #[] 3)).cell? ((⟨g, 0, none⟩ : Addr).add j) = some u) := Lib.hid (by
    intro j u hj
    have hjl : j < xs.length := by
      have := (List.getElem?_eq_some_iff.1 hj).1
      simpa using this
    rw [add_plain, Nat.zero_add]
    refine (World.cell?_alloc_lt _ _ _ (by simpa using hg2)).trans ?_
    rw [(hR.at' j hjl).1, ← hj]
    simp [List.getD_eq_getElem?_getD, hjl])
  have hnil : ∀ W : World, (binOp .eql 40 (.slice (some ⟨g, 0, none⟩) xs.length cap) (.slice none 0 0)).run Try.prog W = .ok (.bool false) W := fun W => Lib.run_eql_slice_some_nil W _ _ _ Try.underlying40
  have hown0 := World.ownsRow_lit (e := 3) (base := w.heap.size) (size := 1) w #[] 0 (Nat.le_refl _) (by simp [maxLen]) rfl
  go_enter Try.func105, Try.ntmps105
  go_wp2_with (first
    | (at_builtin
       go_must (refine wpList_append_lies _ rfl _ _ 40 rfl w.heap.size 3 i0 _ 1 8 Try.underlying40 hi0 hz0 hz1 hz2 rfl (by omega) _ 0 [] rfl hown0 ⟨g, 0, none⟩ xs.length cap (xs.map (Value.int .i64)) rfl (by simp) hnews.out (by simp [Value.oneCell']) h0 (by unfold maxLen small at *; omega) (by unfold small at *; omega) (by simp) _ rfl ?_)
       intro g2 k2 w7 hown7 hgr7 hat7 hlt7))
  go_ret
  rw [Nat.zero_add, List.nil_append] at hown7
  refine ⟨g2, k2, rfl, ⟨hown7, hsm⟩, ?_⟩
  exact Below.grown (w := w.alloc (.cells #[] 3)) (by (repeat (first | (with_reducible assumption) | (with_reducible exact Below.refl _ _) | ((with_reducible refine Below.alloc ?_ ?hsz _); (case hsz => (first | omega | (simp; done) | (simp; omega) | (simp at *; omega)))) | ((with_reducible refine Below.setCell ?_ ?hsz _); (case hsz => (first | omega | (simp; done) | (simp; omega) | (simp at *; omega)))) | (with_reducible refine Below.drew ?_) | (with_reducible refine below_drewN ?_ _) | ((with_reducible refine Below.trans ?_ (Below.mono (by with_reducible assumption) ?hsz)); (case hsz => (first | omega | (simp; done) | (simp; omega) | (simp at *; omega))))))) hgr7 (by (first | omega | (simp; done) | (simp; omega) | (simp at *; omega))) (fun q hq => by
    have hq' : w.heap.size = q := by injection hq
    omega)

set_option maxHeartbeats 1000000 in
set_option maxRecDepth 20000 in
theorem pushedAlong_any (u0 u : Value) (l : List Nat) (ps : List Pp) (xs : List Int) (b b0 : Nat) (d : Int) (w : World) (h0 : Ints w b0 u0 (ofS l)) (hx : Ints w b u xs) (hN : xs.length = ps.length) (hl7 : ps.length ≤ 7) (hpos : 0 < xs.length)
    (hs : ∀ s ∈ l, s < 2 * ps.length) (hbd : ∀ k j, 0 ≤ (pushL d xs (l.take k)).getD j 0 ∧ (pushL d xs (l.take k)).getD j 0 ≤ 40) (hd : 0 ≤ d ∧ d ≤ 40) :
    Calls Try.prog 123 #[u, u0, .int .i64 d] w fun e w' => ∃ r, e = .returned r ∧ Ints w' w.heap.size r (pushL d xs l) ∧ Below w.heap.size w w' := by
  have hx0 := hx
  have h00 := h0
  obtain ⟨A, c, rfl, -, -, -, -⟩ := hx.form
  obtain ⟨A0, c0, rfl, -, -, -, -⟩ := h0.form
  obtain ⟨m0, hm0⟩ : ∃ m, (ofS l).length = m := ⟨_, rfl⟩
  rw [hm0] at h00 ⊢
  clear h0 hm0 hx
  have HB := Lib.hid hbd
  have HS := Lib.hid hs
  have HN := Lib.hid hN
  clear hbd hs hN
  go_enter Try.func123, Try.ntmps123
  go_wp2_with fail
  with_reducible refine (clone_any _ xs b _ (hx0.keep (by (repeat (first | (with_reducible assumption) | (with_reducible exact Below.refl _ _) | ((with_reducible refine Below.alloc ?_ ?hsz _); (case hsz => (first | omega | (simp; done) | (simp; omega) | (simp at *; omega)))) | ((with_reducible refine Below.setCell ?_ ?hsz _); (case hsz => (first | omega | (simp; done) | (simp; omega) | (simp at *; omega)))) | (with_reducible refine Below.drew ?_) | (with_reducible refine below_drewN ?_ _) | ((with_reducible refine Below.trans ?_ (Below.mono (by with_reducible assumption) ?hsz)); (case hsz => (first | omega | (simp; done) | (simp; omega) | (simp at *; omega)))))))) hpos).mono ?_
  rintro e w1 ⟨g, cap, rfl, hR, hb1⟩
  go_wp2_with fail
  refine (foldPush_any w.heap.size g xs.length cap b0 d _ l ps xs (w.alloc (.cells #[.int .i64 d] 3)) w1 hb1 (h00.keep (by (repeat (first | (with_reducible assumption) | (with_reducible exact Below.refl _ _) | ((with_reducible refine Below.alloc ?_ ?hsz _); (case hsz => (first | omega | (simp; done) | (simp; omega) | (simp at *; omega)))) | ((with_reducible refine Below.setCell ?_ ?hsz _); (case hsz => (first | omega | (simp; done) | (simp; omega) | (simp at *; omega)))) | (with_reducible refine Below.drew ?_) | (with_reducible refine below_drewN ?_ _) | ((with_reducible refine Below.trans ?_ (Below.mono (by with_reducible assumption) ?hsz)); (case hsz => (first | omega | (simp; done) | (simp; omega) | (simp at *; omega)))))))) hR HN.out hl7 HS.out HB.out hd (by (first | omega | (simp; done) | (simp; omega) | (simp at *; omega))) (by go_simp)).mono ?_
  rintro e w2 ⟨rfl, hR2, hb2⟩
  go_wp2
  go_ret
  exact ⟨_, rfl, (hR2.mono (by (first | omega | (simp; done) | (simp; omega) | (simp at *; omega)))).ints, ((Below.refl _ _).alloc (Nat.le_refl _) _).trans (hb2.mono (by (first | omega | (simp; done) | (simp; omega) | (simp at *; omega))))⟩

end Go.Proofs.Ytphbmlephldaaaa

/- Contracts of the functions of chapter 6 in the program: CheaperFlow, CheapestFlow. -/
namespace Go.Proofs.Ytphbmlephldaaaa
open Go.RowKit

set_option maxHeartbeats 4000000 in
set_option maxRecDepth 20000 in
theorem cheaper_any (n : Int) (v u : Value) (ps : List Pp) (xs : List Int) (b b' : Nat) (w : World) (hp : Pipes w b v ps) (hx : Ints w b' u xs) :
    Calls Try.prog 120 #[.agg #[.int .i64 n, v], u] w fun e w' => ∃ r, e = .returned (.tuple #[r, .bool (gainsB n ps xs)]) ∧ Ints w' w.heap.size r (cheapR n ps xs) ∧ Below w.heap.size w w' := by
  have hp0 := hp
  have hx0 := hx
  obtain ⟨A, c, rfl, -, -, -, -⟩ := hp.form
  obtain ⟨A', c', rfl, -, -, -, -⟩ := hx.form
  have bx0 := Box2.new w (.int .i64 n) (.slice A ps.length c) 25
  go_enter Try.func120, Try.ntmps120
  go_wp2_with fail
  with_reducible refine (gainOf_any n _ _ ps xs b b' _ (hp0.keep (by (repeat (first | (with_reducible assumption) | (with_reducible exact Below.refl _ _) | ((with_reducible refine Below.alloc ?_ ?hsz _); (case hsz => (first | omega | (simp; done) | (simp; omega) | (simp at *; omega)))) | ((with_reducible refine Below.setCell ?_ ?hsz _); (case hsz => (first | omega | (simp; done) | (simp; omega) | (simp at *; omega)))) | (with_reducible refine Below.drew ?_) | (with_reducible refine below_drewN ?_ _) | ((with_reducible refine Below.trans ?_ (Below.mono (by with_reducible assumption) ?hsz)); (case hsz => (first | omega | (simp; done) | (simp; omega) | (simp at *; omega)))))))) (hx0.keep (by (repeat (first | (with_reducible assumption) | (with_reducible exact Below.refl _ _) | ((with_reducible refine Below.alloc ?_ ?hsz _); (case hsz => (first | omega | (simp; done) | (simp; omega) | (simp at *; omega)))) | ((with_reducible refine Below.setCell ?_ ?hsz _); (case hsz => (first | omega | (simp; done) | (simp; omega) | (simp at *; omega)))) | (with_reducible refine Below.drew ?_) | (with_reducible refine below_drewN ?_ _) | ((with_reducible refine Below.trans ?_ (Below.mono (by with_reducible assumption) ?hsz)); (case hsz => (first | omega | (simp; done) | (simp; omega) | (simp at *; omega))))))))).mono ?_
  rintro e w1 ⟨r, rfl, hr, hb1⟩
  have bx1 := bx0.keep hb1
  have hB1 : Below w.heap.size w w1 := by (repeat (first | (with_reducible assumption) | (with_reducible exact Below.refl _ _) | ((with_reducible refine Below.alloc ?_ ?hsz _); (case hsz => (first | omega | (simp; done) | (simp; omega) | (simp at *; omega)))) | ((with_reducible refine Below.setCell ?_ ?hsz _); (case hsz => (first | omega | (simp; done) | (simp; omega) | (simp at *; omega)))) | (with_reducible refine Below.drew ?_) | (with_reducible refine below_drewN ?_ _) | ((with_reducible refine Below.trans ?_ (Below.mono (by with_reducible assumption) ?hsz)); (case hsz => (first | omega | (simp; done) | (simp; omega) | (simp at *; omega))))))
  have hz1 := hB1.size
  clear bx0 hb1
  obtain ⟨bs, d0, d1, -, -⟩ := id bx1
  by_cases hw : gainsB n ps xs = true
  · rw [hw]
    have HF := Lib.hid (gain_facts hw)
    have HR := Lib.hid (cheap_yes hw)
    have Hw := Lib.hid hw
    obtain ⟨f1, f2, f3, -⟩ := gain_facts hw
    obtain ⟨A1, c1, rfl, -, -, -, -⟩ := hr.form
    obtain ⟨m0, hm0⟩ : ∃ m, (gainI n ps xs).length = m := ⟨_, rfl⟩
    rw [hm0] at hr ⊢
    clear hw hm0 f2
    go_wp2_with fail
    with_reducible refine (wayRoom_any _ _ _ (gainR n ps xs) ps xs b b' _ _ hr (hp0.keep hB1) (hx0.keep hB1) HF.out.2.2.2.2.2.1 f1 HF.out.2.1 HF.out.2.2.2.1 HF.out.2.2.2.2.1).mono ?_
    rintro e w2 ⟨rfl, hb2⟩
    have hB2 : Below w.heap.size w w2 := by (repeat (first | (with_reducible assumption) | (with_reducible exact Below.refl _ _) | ((with_reducible refine Below.alloc ?_ ?hsz _); (case hsz => (first | omega | (simp; done) | (simp; omega) | (simp at *; omega)))) | ((with_reducible refine Below.setCell ?_ ?hsz _); (case hsz => (first | omega | (simp; done) | (simp; omega) | (simp at *; omega)))) | (with_reducible refine Below.drew ?_) | (with_reducible refine below_drewN ?_ _) | ((with_reducible refine Below.trans ?_ (Below.mono (by with_reducible assumption) ?hsz)); (case hsz => (first | omega | (simp; done) | (simp; omega) | (simp at *; omega))))))
    have hr2 := hr.keep hb2
    have hz2 := hB2.size
    go_wp2_with fail
    refine (pushedAlong_any _ _ (gainR n ps xs) ps xs b' _ (gainA n ps xs) _ hr2 (hx0.keep hB2) HF.out.2.1 f1 f3 HF.out.2.2.2.2.2.1 HF.out.2.2.2.2.2.2.1 HF.out.2.2.2.2.2.2.2).mono ?_
    rintro e w3 ⟨r3, rfl, hr3, hb3⟩
    go_wp2
    go_ret2
    exact ⟨_, ret_vb Hw.out.symm, by rw [HR.out]; exact hr3.mono hz2, by (repeat (first | (with_reducible assumption) | (with_reducible exact Below.refl _ _) | ((with_reducible refine Below.alloc ?_ ?hsz _); (case hsz => (first | omega | (simp; done) | (simp; omega) | (simp at *; omega)))) | ((with_reducible refine Below.setCell ?_ ?hsz _); (case hsz => (first | omega | (simp; done) | (simp; omega) | (simp at *; omega)))) | (with_reducible refine Below.drew ?_) | (with_reducible refine below_drewN ?_ _) | ((with_reducible refine Below.trans ?_ (Below.mono (by with_reducible assumption) ?hsz)); (case hsz => (first | omega | (simp; done) | (simp; omega) | (simp at *; omega))))))⟩
  · have hw' : gainsB n ps xs = false := by simpa using hw
    rw [hw']
    have Hw := Lib.hid hw'
    clear hw hw' hr
    go_wp2
    go_ret2
    exact ⟨_, ret_vb Hw.out.symm, by rw [cheap_no Hw.out]; exact Ints_nil _ _, by (repeat (first | (with_reducible assumption) | (with_reducible exact Below.refl _ _) | ((with_reducible refine Below.alloc ?_ ?hsz _); (case hsz => (first | omega | (simp; done) | (simp; omega) | (simp at *; omega)))) | ((with_reducible refine Below.setCell ?_ ?hsz _); (case hsz => (first | omega | (simp; done) | (simp; omega) | (simp at *; omega)))) | (with_reducible refine Below.drew ?_) | (with_reducible refine below_drewN ?_ _) | ((with_reducible refine Below.trans ?_ (Below.mono (by with_reducible assumption) ?hsz)); (case hsz => (first | omega | (simp; done) | (simp; omega) | (simp at *; omega))))))⟩

theorem Ints.uniq6 {w : World} {b : Nat} {v : Value} {xs ys : List Int} (h : Ints w b v xs) (h' : Ints w b v ys) : xs = ys := by
  obtain ⟨A, c, rfl, -, -, -, hc⟩ := h.form
  obtain ⟨A', c', e, -, -, -, hc'⟩ := h'.form
  simp only [Value.slice.injEq] at e
  obtain ⟨rfl, hl, rfl⟩ := e
  apply List.ext_getElem hl
  intro i h1 h2
  obtain ⟨g, e1, _, _, c0, _⟩ := hc w (Below.refl _ _) i h1
  obtain ⟨g', e1', _, _, c0', _⟩ := hc' w (Below.refl _ _) i h2
  rw [e1] at e1'
  injection e1' with e1'
  injection e1' with e1'
  subst e1'
  rw [c0] at c0'
  injection c0' with c0'
  injection c0' with _ c0'

set_option maxHeartbeats 4000000 in
set_option maxRecDepth 20000 in
theorem cheapest_any (n : Int) (v u : Value) (ps : List Pp) (xs : List Int) (b b' : Nat) (w : World) (hp : Pipes w b v ps) (hx : Ints w b' u xs) :
    Calls Try.prog 90 #[.agg #[.int .i64 n, v], u] w fun e w' => ∃ r, e = .returned (.tuple #[r, .bool (holdsB n ps xs)]) ∧ Ints w' w.heap.size r (chpstR n ps xs) ∧ Below w.heap.size w w' := by
  have hp0 := hp
  have hx0 := hx
  obtain ⟨A, c, rfl, -, -, -, -⟩ := hp.form
  obtain ⟨A', c', rfl, -, -, -, -⟩ := hx.form
  have bx0 := Box2.new w (.int .i64 n) (.slice A ps.length c) 25
  go_enter Try.func90, Try.ntmps90
  go_wp2_with fail
  with_reducible refine (holdsOk_any n _ _ ps xs b b' _ (hp0.keep (by (repeat (first | (with_reducible assumption) | (with_reducible exact Below.refl _ _) | ((with_reducible refine Below.alloc ?_ ?hsz _); (case hsz => (first | omega | (simp; done) | (simp; omega) | (simp at *; omega)))) | ((with_reducible refine Below.setCell ?_ ?hsz _); (case hsz => (first | omega | (simp; done) | (simp; omega) | (simp at *; omega)))) | (with_reducible refine Below.drew ?_) | (with_reducible refine below_drewN ?_ _) | ((with_reducible refine Below.trans ?_ (Below.mono (by with_reducible assumption) ?hsz)); (case hsz => (first | omega | (simp; done) | (simp; omega) | (simp at *; omega)))))))) (hx0.keep (by (repeat (first | (with_reducible assumption) | (with_reducible exact Below.refl _ _) | ((with_reducible refine Below.alloc ?_ ?hsz _); (case hsz => (first | omega | (simp; done) | (simp; omega) | (simp at *; omega)))) | ((with_reducible refine Below.setCell ?_ ?hsz _); (case hsz => (first | omega | (simp; done) | (simp; omega) | (simp at *; omega)))) | (with_reducible refine Below.drew ?_) | (with_reducible refine below_drewN ?_ _) | ((with_reducible refine Below.trans ?_ (Below.mono (by with_reducible assumption) ?hsz)); (case hsz => (first | omega | (simp; done) | (simp; omega) | (simp at *; omega))))))))).mono ?_
  rintro e w1 ⟨rfl, hb1⟩
  have bx1 := bx0.keep hb1
  have hB1 : Below w.heap.size w w1 := by (repeat (first | (with_reducible assumption) | (with_reducible exact Below.refl _ _) | ((with_reducible refine Below.alloc ?_ ?hsz _); (case hsz => (first | omega | (simp; done) | (simp; omega) | (simp at *; omega)))) | ((with_reducible refine Below.setCell ?_ ?hsz _); (case hsz => (first | omega | (simp; done) | (simp; omega) | (simp at *; omega)))) | (with_reducible refine Below.drew ?_) | (with_reducible refine below_drewN ?_ _) | ((with_reducible refine Below.trans ?_ (Below.mono (by with_reducible assumption) ?hsz)); (case hsz => (first | omega | (simp; done) | (simp; omega) | (simp at *; omega))))))
  have hz1 := hB1.size
  clear bx0 hb1
  obtain ⟨bs, d0, d1, -, -⟩ := id bx1
  by_cases hf : holdsB n ps xs = true
  · rw [hf]
    have hl7 : xs.length ≤ 7 := by
      have h1 := (netOk_parts (holds_net hf)).2.2.1
      have h2 := (flowOk_parts (holds_parts hf).1).2.1
      omega
    have Hf := Lib.hid hf
    clear hf
    go_wp2_with fail
    refine (cloneInts_any _ xs b' _ (hx0.keep hB1) (by omega)).mono ?_
    rintro e w2 ⟨r2, rfl, hr2, hb2⟩
    have bx2 := bx1.keep hb2
    have hB2 := hB1.trans (hb2.mono hz1)
    have hz2 := hB2.size
    have HM := Lib.hid (hr2.mono hz1)
    clear bx1 hb2 d0 d1 bs hB1 hr2
    obtain ⟨bs, d0, d1, -, -⟩ := id bx2
    go_wp2_with fail
    go_loopw [6] (fun t wr => ∃ ys : List Int, Ints wr w.heap.size t ys ∧ holdsB n ps ys = true ∧ chpstR n ps ys = chpstR n ps xs ∧ Below w.heap.size w wr ∧ Box2 wr w.heap.size (.int .i64 n) (.slice A ps.length c))
      (fun t wr => (costS ps (Classical.epsilon fun ys => Ints wr w.heap.size t ys) + 2520).toNat)
    case atStart => exact ⟨xs, HM.out, Hf.out, rfl, hB2, bx2⟩
    case round =>
      obtain ⟨ys, hI, hh, hpk, hb, bx⟩ := hrel
      have HI := Lib.hid hI
      have HP := Lib.hid hpk
      have HH := Lib.hid hh
      have hzb := hb.size
      clear d0 d1 bs bx2
      obtain ⟨bs, d0, d1, -, -⟩ := id bx
      clear hI hpk hh
      go_wp2_with fail
      with_reducible refine (cheaper_any n _ _ ps ys b _ _ (hp0.keep hb) HI.out).mono ?_
      rintro e w3 ⟨r3, rfl, hr3, hb3⟩
      have hb33 : Below w.heap.size w w3 := hb.trans (hb3.mono hzb)
      have bx3 := bx.keep hb3
      by_cases hw : gainsB n ps ys = true
      · rw [hw]
        have p1 := cheap_ok hw
        have p2 := costS_bd7' p1.1
        have p3 := chpst_step hw
        have e1 : (Classical.epsilon fun zs => Ints wr w.heap.size u6 zs) = ys := Ints.uniq6 (Classical.epsilon_spec (p := fun zs => Ints wr w.heap.size u6 zs) ⟨ys, HI.out⟩) HI.out
        have hr30 : Ints w3 w.heap.size r3 (cheapR n ps ys) := hr3.mono hzb
        have e2 : (Classical.epsilon fun zs => Ints w3 w.heap.size r3 zs) = cheapR n ps ys := Ints.uniq6 (Classical.epsilon_spec (p := fun zs => Ints w3 w.heap.size r3 zs) ⟨_, hr30⟩) hr30
        have HX := Lib.hid (And.intro p1 (And.intro p2 (And.intro p3 (And.intro e1 (And.intro e2 hr30)))))
        clear p1 p2 p3 e1 e2 hr30 hw hr3
        go_wp2
        go_roundw
        case rel => exact ⟨cheapR n ps ys, HX.out.2.2.2.2.2, HX.out.1.1, HX.out.2.2.1.trans HP.out, hb33, bx3⟩
        case measure =>
          have h1 := HX.out.1.2.2
          have h2 := HX.out.2.1
          simp only [HX.out.2.2.2.1, HX.out.2.2.2.2.1]
          omega
      · have hw' : gainsB n ps ys = false := by simpa using hw
        rw [hw']
        have hfin : Hid (chpstR n ps xs = ys) := Lib.hid (by rw [← HP.out, chpst_end HH.out hw'])
        clear hw hw' hr3
        go_wp2
        go_ret2
        exact ⟨_, ret_vb Hf.out.symm, by rw [hfin.out]; exact HI.out.keep hb3, hb33⟩
  · have hf' : holdsB n ps xs = false := by simpa using hf
    rw [hf']
    have Hw := Lib.hid hf'
    clear hf hf'
    go_wp2
    go_ret2
    exact ⟨_, ret_vb Hw.out.symm, by rw [chpst_no Hw.out]; exact Ints_nil _ _, hB1⟩

end Go.Proofs.Ytphbmlephldaaaa
