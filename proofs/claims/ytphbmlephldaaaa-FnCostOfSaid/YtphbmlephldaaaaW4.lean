/- Contracts of the functions of chapter 1 in the program: BothFlows. -/
import Derived.Test.YtphbmlephldaaaaW3
import Derived.StillTailTactics
namespace Go.Proofs.Ytphbmlephldaaaa
open Go.RowKit

theorem joined_fn (x y : Int) (w : World) (h0 : 0 ≤ x) (h1 : x ≤ 40) (h2 : 0 ≤ y) (h3 : y ≤ 40) :
    Calls Try.prog 72 #[.int .i64 x, .int .i64 y] w fun e w' => e = .returned (.int .i64 (x + y)) ∧ w = w' := by
  go_enter Try.func72, Try.ntmps72
  go_wp2
  go_ret
  exact ⟨rfl, rfl⟩

set_option maxHeartbeats 400000 in
set_option maxRecDepth 20000 in
theorem joined_any (v u : Value) (xs ys : List Int) (b b' : Nat) (w : World) (hx : Ints w b v xs) (hy : Ints w b' u ys) (hl : xs.length = ys.length) (ha : ∀ x ∈ xs, 0 ≤ x ∧ x ≤ 40) (ha2 : ∀ x ∈ ys, 0 ≤ x ∧ x ≤ 40) :
    Calls Try.prog 71 #[v, u, .func (Fn.func 72) #[] #[]] w fun e w' => ∃ r, e = .returned r ∧ Ints w' w.heap.size r (addAll xs ys) ∧ Below w.heap.size w w' := by
  obtain ⟨A, c, rfl, hc1, hc2, hs, hcell⟩ := hx.form
  obtain ⟨A', c', rfl, hc1', hc2', hs', hcell'⟩ := hy.form
  unfold maxLen at hc2 hc2'
  have Hl := Lib.hid hl
  clear hl
  have hmk := fun W => run_make_ints hs W
  go_enter Try.func71, Try.ntmps71
  go_wp2
  go_loopw [14] (fun i wr => ∃ (k : Nat) (zs : List Int), k ≤ xs.length ∧ i = .int .i64 k ∧ zs.length = xs.length ∧ zs.take k = (addAll xs ys).take k ∧
      wr.ownsRow w.heap.size 3 1 (.slice (some ⟨w.heap.size, 0, none⟩) xs.length xs.length) xs.length (zs.map (Value.int .i64)) ∧ Below w.heap.size w wr) (fun i _ => xs.length - (intOf i).toNat)
  case atStart => exact ⟨0, List.replicate xs.length 0, by omega, rfl, by simp, by simp, by
      have h := World.ownsRow_lit (e := 3) (base := w.heap.size) (size := 1) w (madeCells #[.int .i64 0] xs.length) xs.length (Nat.le_refl _) (by unfold maxLen; omega) (by simp [madeCells])
      rw [toList_madeCells_one] at h
      simpa using h, by (repeat (first | (with_reducible assumption) | (with_reducible exact Below.refl _ _) | ((with_reducible refine Below.alloc ?_ ?hsz _); (case hsz => (first | omega | (simp; done) | (simp; omega) | (simp at *; omega)))) | ((with_reducible refine Below.setCell ?_ ?hsz _); (case hsz => (first | omega | (simp; done) | (simp; omega) | (simp at *; omega)))) | (with_reducible refine Below.drew ?_) | (with_reducible refine below_drewN ?_ _) | ((with_reducible refine Below.trans ?_ (Below.mono (by with_reducible assumption) ?hsz)); (case hsz => (first | omega | (simp; done) | (simp; omega) | (simp at *; omega))))))⟩
  case round =>
    obtain ⟨k, zs, hk, rfl, hzl, hzk, hown, hb⟩ := hrel
    obtain ⟨hcr, hfr, hzr⟩ := bcell hb
    by_cases hlt : k < xs.length
    · have hly : k < ys.length := by have := Hl.out; omega
      obtain ⟨g, rfl, hg1, hg2, c0, _⟩ := hcell w (Below.refl _ _) k hlt
      obtain ⟨g', rfl, hg1', hg2', c0', _⟩ := hcell' w (Below.refl _ _) k hly
      obtain ⟨z, o0⟩ : ∃ z : Int, wr.cell? ⟨w.heap.size, k, none⟩ = some (.int .i64 z) := ⟨zs[k]'(by omega), by
        rw [hown.cellAt k (by omega)]; simp [hzl, hlt]⟩
      have o1 := hown.frozenAt k
      have v1 := (ha _ (List.getElem_mem hlt)).1
      have v2 := (ha _ (List.getElem_mem hlt)).2
      have v3 := (ha2 _ (List.getElem_mem hly)).1
      have v4 := (ha2 _ (List.getElem_mem hly)).2
      have Hzl := Lib.hid hzl
      have Hzk := Lib.hid hzk
      clear hzl hzk
      go_wp2
      go_still_tail 12, (by kernel_rfl)
      still_call ((joined_fn _ _ _ v1 v2 v3 v4).mono fun _ _ h => ⟨h.1, h.2.symm⟩)
      refine wpStill_nil ?_
      change wpList _ _ _ _ _ wr.drew
      go_wp2
      have hst := hown.stored k (.int .i64 (xs[k] + ys[k]))
      go_roundw
      case rel => exact ⟨k + 1, zs.set k (xs[k] + ys[k]), by omega, by go_num, by simpa using Hzl.out, set_take (by have := Hzl.out; omega) Hzk.out (addAll_at hlt hly),
        by rw [List.map_set]; exact hst.1, by (repeat (first | (with_reducible assumption) | (with_reducible exact Below.refl _ _) | ((with_reducible refine Below.alloc ?_ ?hsz _); (case hsz => (first | omega | (simp; done) | (simp; omega) | (simp at *; omega)))) | ((with_reducible refine Below.setCell ?_ ?hsz _); (case hsz => (first | omega | (simp; done) | (simp; omega) | (simp at *; omega)))) | (with_reducible refine Below.drew ?_) | (with_reducible refine below_drewN ?_ _) | ((with_reducible refine Below.trans ?_ (Below.mono (by with_reducible assumption) ?hsz)); (case hsz => (first | omega | (simp; done) | (simp; omega) | (simp at *; omega))))))⟩
      case measure => simp [intOf]; omega
    · go_wp2
      go_ret
      have hk2 : k = xs.length := by omega
      subst hk2
      have hz : zs = addAll xs ys := by
        rw [List.take_of_length_le (by omega), List.take_of_length_le (by rw [addAll_len Hl.out]; exact Nat.le_refl _)] at hzk
        exact hzk
      subst hz
      exact ⟨_, rfl, ⟨by rw [addAll_len Hl.out]; exact hown, by rw [addAll_len Hl.out]; exact hs⟩, by (repeat (first | (with_reducible assumption) | (with_reducible exact Below.refl _ _) | ((with_reducible refine Below.alloc ?_ ?hsz _); (case hsz => (first | omega | (simp; done) | (simp; omega) | (simp at *; omega)))) | ((with_reducible refine Below.setCell ?_ ?hsz _); (case hsz => (first | omega | (simp; done) | (simp; omega) | (simp at *; omega)))) | (with_reducible refine Below.drew ?_) | (with_reducible refine below_drewN ?_ _) | ((with_reducible refine Below.trans ?_ (Below.mono (by with_reducible assumption) ?hsz)); (case hsz => (first | omega | (simp; done) | (simp; omega) | (simp at *; omega))))))⟩

set_option maxHeartbeats 400000 in
set_option maxRecDepth 20000 in
theorem bothFlows_any (n : Int) (v u r : Value) (ps : List Pp) (xs ys : List Int) (b b' b2 : Nat) (w : World) (hp : Pipes w b v ps) (hx : Ints w b' u xs) (hy : Ints w b2 r ys) :
    Calls Try.prog 28 #[.agg #[.int .i64 n, v], u, r] w fun e w' => ∃ s, e = .returned (.tuple #[s, .bool (bothB n ps xs ys)]) ∧ Ints w' w.heap.size s (bothR n ps xs ys) ∧ Below w.heap.size w w' := by
  have hno : bothB n ps xs ys = false → ∀ {w' : World} {c : Bool}, c = false → Below w.heap.size w w' → ∃ s, Ending.returned (.tuple #[.slice none 0 0, .bool c]) = .returned (.tuple #[s, .bool (bothB n ps xs ys)]) ∧ Ints w' w.heap.size s (bothR n ps xs ys) ∧ Below w.heap.size w w' := by
    intro h w' c hc hb
    exact ⟨_, ret_vb (by rw [hc, h]), by simp [bothR, h]; exact Ints_nil _ _, hb⟩
  go_enter Try.func28, Try.ntmps28
  go_wp2_with (first
    | (go_at_call 67; ((with_reducible refine (flowOk_any n v u ps xs b b' _ (hp.keep (by (repeat (first | (with_reducible assumption) | (with_reducible exact Below.refl _ _) | ((with_reducible refine Below.alloc ?_ ?hsz _); (case hsz => (first | omega | (simp; done) | (simp; omega) | (simp at *; omega)))) | ((with_reducible refine Below.setCell ?_ ?hsz _); (case hsz => (first | omega | (simp; done) | (simp; omega) | (simp at *; omega)))) | (with_reducible refine Below.drew ?_) | (with_reducible refine below_drewN ?_ _) | ((with_reducible refine Below.trans ?_ (Below.mono (by with_reducible assumption) ?hsz)); (case hsz => (first | omega | (simp; done) | (simp; omega) | (simp at *; omega)))))))) (hx.keep (by (repeat (first | (with_reducible assumption) | (with_reducible exact Below.refl _ _) | ((with_reducible refine Below.alloc ?_ ?hsz _); (case hsz => (first | omega | (simp; done) | (simp; omega) | (simp at *; omega)))) | ((with_reducible refine Below.setCell ?_ ?hsz _); (case hsz => (first | omega | (simp; done) | (simp; omega) | (simp at *; omega)))) | (with_reducible refine Below.drew ?_) | (with_reducible refine below_drewN ?_ _) | ((with_reducible refine Below.trans ?_ (Below.mono (by with_reducible assumption) ?hsz)); (case hsz => (first | omega | (simp; done) | (simp; omega) | (simp at *; omega))))))))).mono ?_); rintro e w1 ⟨rfl, hb1⟩; obtain ⟨hc1, hf1, hz1⟩ := bcell hb1; (try simp at hz1); (try have hy1 : w.heap.size < w1.heap.size := by omega); (try have hy2 : w.heap.size + 1 < w1.heap.size := by omega); (try have hy3 : w.heap.size + 1 + 1 < w1.heap.size := by omega)))
    | (go_at_call 67; ((with_reducible refine (flowOk_any n v r ps ys b b2 _ (hp.keep (by (repeat (first | (with_reducible assumption) | (with_reducible exact Below.refl _ _) | ((with_reducible refine Below.alloc ?_ ?hsz _); (case hsz => (first | omega | (simp; done) | (simp; omega) | (simp at *; omega)))) | ((with_reducible refine Below.setCell ?_ ?hsz _); (case hsz => (first | omega | (simp; done) | (simp; omega) | (simp at *; omega)))) | (with_reducible refine Below.drew ?_) | (with_reducible refine below_drewN ?_ _) | ((with_reducible refine Below.trans ?_ (Below.mono (by with_reducible assumption) ?hsz)); (case hsz => (first | omega | (simp; done) | (simp; omega) | (simp at *; omega)))))))) (hy.keep (by (repeat (first | (with_reducible assumption) | (with_reducible exact Below.refl _ _) | ((with_reducible refine Below.alloc ?_ ?hsz _); (case hsz => (first | omega | (simp; done) | (simp; omega) | (simp at *; omega)))) | ((with_reducible refine Below.setCell ?_ ?hsz _); (case hsz => (first | omega | (simp; done) | (simp; omega) | (simp at *; omega)))) | (with_reducible refine Below.drew ?_) | (with_reducible refine below_drewN ?_ _) | ((with_reducible refine Below.trans ?_ (Below.mono (by with_reducible assumption) ?hsz)); (case hsz => (first | omega | (simp; done) | (simp; omega) | (simp at *; omega))))))))).mono ?_); rintro e w1 ⟨rfl, hb1⟩; obtain ⟨hc1, hf1, hz1⟩ := bcell hb1; (try simp at hz1); (try have hy1 : w.heap.size < w1.heap.size := by omega); (try have hy2 : w.heap.size + 1 < w1.heap.size := by omega); (try have hy3 : w.heap.size + 1 + 1 < w1.heap.size := by omega))))
  · have h2 : flowOkB n ps ys = false := of_not_t (by assumption)
    go_ret2
    exact hno (by simp [bothB, h2]) rfl (by (repeat (first | (with_reducible assumption) | (with_reducible exact Below.refl _ _) | ((with_reducible refine Below.alloc ?_ ?hsz _); (case hsz => (first | omega | (simp; done) | (simp; omega) | (simp at *; omega)))) | ((with_reducible refine Below.setCell ?_ ?hsz _); (case hsz => (first | omega | (simp; done) | (simp; omega) | (simp at *; omega)))) | (with_reducible refine Below.drew ?_) | (with_reducible refine below_drewN ?_ _) | ((with_reducible refine Below.trans ?_ (Below.mono (by with_reducible assumption) ?hsz)); (case hsz => (first | omega | (simp; done) | (simp; omega) | (simp at *; omega)))))))
  · have h1 : flowOkB n ps xs = true := by assumption
    have h2 : flowOkB n ps ys = true := of_not (by assumption)
    have Hl := Lib.hid (flow_len2 h1 h2)
    refine (joined_any u r xs ys b' b2 _ (hx.keep (by (repeat (first | (with_reducible assumption) | (with_reducible exact Below.refl _ _) | ((with_reducible refine Below.alloc ?_ ?hsz _); (case hsz => (first | omega | (simp; done) | (simp; omega) | (simp at *; omega)))) | ((with_reducible refine Below.setCell ?_ ?hsz _); (case hsz => (first | omega | (simp; done) | (simp; omega) | (simp at *; omega)))) | (with_reducible refine Below.drew ?_) | (with_reducible refine below_drewN ?_ _) | ((with_reducible refine Below.trans ?_ (Below.mono (by with_reducible assumption) ?hsz)); (case hsz => (first | omega | (simp; done) | (simp; omega) | (simp at *; omega)))))))) (hy.keep (by (repeat (first | (with_reducible assumption) | (with_reducible exact Below.refl _ _) | ((with_reducible refine Below.alloc ?_ ?hsz _); (case hsz => (first | omega | (simp; done) | (simp; omega) | (simp at *; omega)))) | ((with_reducible refine Below.setCell ?_ ?hsz _); (case hsz => (first | omega | (simp; done) | (simp; omega) | (simp at *; omega)))) | (with_reducible refine Below.drew ?_) | (with_reducible refine below_drewN ?_ _) | ((with_reducible refine Below.trans ?_ (Below.mono (by with_reducible assumption) ?hsz)); (case hsz => (first | omega | (simp; done) | (simp; omega) | (simp at *; omega)))))))) Hl.out (flowOk_parts h1).2.2 (flowOk_parts h2).2.2).mono ?_
    rintro e w2 ⟨s, rfl, hs, hb2⟩
    obtain ⟨hc2, hf2, hz2⟩ := bcell hb2
    have hzz : w.heap.size < w2.heap.size := by omega
    have hbw : Below w.heap.size w w2 := by (repeat (first | (with_reducible assumption) | (with_reducible exact Below.refl _ _) | ((with_reducible refine Below.alloc ?_ ?hsz _); (case hsz => (first | omega | (simp; done) | (simp; omega) | (simp at *; omega)))) | ((with_reducible refine Below.setCell ?_ ?hsz _); (case hsz => (first | omega | (simp; done) | (simp; omega) | (simp at *; omega)))) | (with_reducible refine Below.drew ?_) | (with_reducible refine below_drewN ?_ _) | ((with_reducible refine Below.trans ?_ (Below.mono (by with_reducible assumption) ?hsz)); (case hsz => (first | omega | (simp; done) | (simp; omega) | (simp at *; omega))))))
    go_wp2_with (first
      | (go_at_call 67; ((with_reducible refine (flowOk_any n v s ps (addAll xs ys) b _ _ (hp.keep (by (repeat (first | (with_reducible assumption) | (with_reducible exact Below.refl _ _) | ((with_reducible refine Below.alloc ?_ ?hsz _); (case hsz => (first | omega | (simp; done) | (simp; omega) | (simp at *; omega)))) | ((with_reducible refine Below.setCell ?_ ?hsz _); (case hsz => (first | omega | (simp; done) | (simp; omega) | (simp at *; omega)))) | (with_reducible refine Below.drew ?_) | (with_reducible refine below_drewN ?_ _) | ((with_reducible refine Below.trans ?_ (Below.mono (by with_reducible assumption) ?hsz)); (case hsz => (first | omega | (simp; done) | (simp; omega) | (simp at *; omega)))))))) hs).mono ?_); rintro e w1 ⟨rfl, hb1⟩; obtain ⟨hc1, hf1, hz1⟩ := bcell hb1; (try simp at hz1); (try have hy1 : w.heap.size < w1.heap.size := by omega); (try have hy2 : w.heap.size + 1 < w1.heap.size := by omega); (try have hy3 : w.heap.size + 1 + 1 < w1.heap.size := by omega))))
    · have h3 : flowOkB n ps (addAll xs ys) = false := of_not_t (by assumption)
      go_ret2
      exact hno (by simp [bothB, h3]) rfl (by (repeat (first | (with_reducible assumption) | (with_reducible exact Below.refl _ _) | ((with_reducible refine Below.alloc ?_ ?hsz _); (case hsz => (first | omega | (simp; done) | (simp; omega) | (simp at *; omega)))) | ((with_reducible refine Below.setCell ?_ ?hsz _); (case hsz => (first | omega | (simp; done) | (simp; omega) | (simp at *; omega)))) | (with_reducible refine Below.drew ?_) | (with_reducible refine below_drewN ?_ _) | ((with_reducible refine Below.trans ?_ (Below.mono (by with_reducible assumption) ?hsz)); (case hsz => (first | omega | (simp; done) | (simp; omega) | (simp at *; omega)))))))
    · have h3 : flowOkB n ps (addAll xs ys) = true := of_not (by assumption)
      go_ret2
      have hb3 : bothB n ps xs ys = true := by simp [bothB, h1, h2, h3]
      exact ⟨_, ret_vb hb3.symm, by simp only [bothR, hb3, if_true]; exact ((hs.mono (by omega)).keep (by assumption)), by (repeat (first | (with_reducible assumption) | (with_reducible exact Below.refl _ _) | ((with_reducible refine Below.alloc ?_ ?hsz _); (case hsz => (first | omega | (simp; done) | (simp; omega) | (simp at *; omega)))) | ((with_reducible refine Below.setCell ?_ ?hsz _); (case hsz => (first | omega | (simp; done) | (simp; omega) | (simp at *; omega)))) | (with_reducible refine Below.drew ?_) | (with_reducible refine below_drewN ?_ _) | ((with_reducible refine Below.trans ?_ (Below.mono (by with_reducible assumption) ?hsz)); (case hsz => (first | omega | (simp; done) | (simp; omega) | (simp at *; omega))))))⟩
  · have h1 : flowOkB n ps xs = false := by simpa using (by assumption : ¬ flowOkB n ps xs = true)
    go_ret2
    exact hno (by simp [bothB, h1]) rfl (by (repeat (first | (with_reducible assumption) | (with_reducible exact Below.refl _ _) | ((with_reducible refine Below.alloc ?_ ?hsz _); (case hsz => (first | omega | (simp; done) | (simp; omega) | (simp at *; omega)))) | ((with_reducible refine Below.setCell ?_ ?hsz _); (case hsz => (first | omega | (simp; done) | (simp; omega) | (simp at *; omega)))) | (with_reducible refine Below.drew ?_) | (with_reducible refine below_drewN ?_ _) | ((with_reducible refine Below.trans ?_ (Below.mono (by with_reducible assumption) ?hsz)); (case hsz => (first | omega | (simp; done) | (simp; omega) | (simp at *; omega)))))))

end Go.Proofs.Ytphbmlephldaaaa
