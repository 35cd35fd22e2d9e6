/- Contracts of the functions of chapter 3 in the program: a row of one number, repeated. -/
import Derived.Test.YtmgpekdhcghabaaGreatWD
import Derived.Laws.CopyOwn
import Derived.Test.YtmgpekdhcghabaaGreatGR5
import Derived.Deep.RegionLaw
import Derived.Deep.DeepCutAuto
namespace Go.Proofs.YtmgpekdhcghabaaGreat
open Go.RowKit

set_option maxHeartbeats 1000000 in
set_option maxRecDepth 20000 in
theorem mul64_any (n : Int) (w : World) (hn : n = 2 ∨ n = 3 ∨ n = 4 ∨ n = 5) :
    Calls Tryz.prog 147 #[.int .u64 1, .int .u64 n] w fun e w' => e = .returned (.tuple #[.int .u64 0, .int .u64 n]) ∧ w = w' := by
  rcases hn with rfl | rfl | rfl | rfl
  all_goals
    go_enter Tryz.func147, Tryz.ntmps147
    go_wp2
    go_ret2
    exact ⟨rfl, rfl⟩

set_option maxHeartbeats 1000000 in
set_option maxRecDepth 20000 in
theorem mul_any (n : Int) (w : World) (hn : n = 2 ∨ n = 3 ∨ n = 4 ∨ n = 5) :
    Calls Tryz.prog 145 #[.int .u64 1, .int .u64 n] w fun e w' => e = .returned (.tuple #[.int .u64 0, .int .u64 n]) ∧ w = w' := by
  have hn0 := hn
  go_enter Tryz.func145, Tryz.ntmps145
  go_wp2_with (first | (go_at_call 147; ((with_reducible refine (mul64_any n _ hn0).mono ?_); rintro e w1 ⟨rfl, rfl⟩)))
  go_ret2
  exact ⟨rfl, rfl⟩

theorem splice_repl {α : Type} (m k d : Nat) (X Z : α) (hd : k + d ≤ m) : splice (List.replicate k X ++ List.replicate (m - k) Z) k (List.replicate d X) = List.replicate (k + d) X ++ List.replicate (m - (k + d)) Z := by
  unfold splice
  rw [List.length_replicate, List.take_append_of_le_length (by simp), List.take_of_length_le (by simp), List.drop_append, List.drop_of_length_le (by simp), List.length_replicate, List.drop_replicate, List.nil_append, ← List.append_assoc, List.replicate_append_replicate]
  congr 2
  omega
theorem made_repl (m : Nat) : (madeCells #[.int .i64 0] m : Array Value) = (List.replicate m (Value.int .i64 0)).toArray := by
  apply Array.ext'
  rw [toList_madeCells_one]
theorem own_heap {w : World} {g m : Nat} {e : TypeId} {xs : List Value} (h : w.heap[g]? = some (.cells xs.toArray e (0, 0))) (hl : xs.length = m) (b : Nat) (hb : b ≤ g) (hm : m ≤ maxLen) : w.ownsRow b e 1 (.slice (some ⟨g, 0, none⟩) m m) m xs := by
  refine ⟨by omega, .inr ⟨g, m, xs.toArray, rfl, hb, h, Nat.le_refl _, hm, by simp; omega, ?_⟩⟩
  rw [List.take_of_length_le (by simp; omega)]

set_option maxHeartbeats 2000000 in
set_option maxRecDepth 20000 in
theorem repeat_any (v : Value) (x n : Int) (b : Nat) (w : World) (hx : Ints w b v [x]) (hn : n = 2 ∨ n = 3 ∨ n = 4 ∨ n = 5) :
    Calls Tryz.prog 144 #[v, .int .i64 n] w fun e w' => ∃ r, e = .returned r ∧ Ints w' w.heap.size r (List.replicate n.toNat x) ∧ Below w.heap.size w w' := by
  obtain ⟨A, c, rfl, hc1, hc2, hs, hcell⟩ := hx.form
  unfold maxLen at hc2
  obtain ⟨g, rfl, hg1, hg2, c0, f0⟩ := hcell w (Below.refl _ _) 0 (by simp)
  replace c0 : w.cell? ⟨g, 0, none⟩ = some (.int .i64 x) := c0
  replace hc1 : 1 ≤ c := hc1
  rw [show [x].length = 1 from rfl]
  have hn0 := hn
  obtain ⟨m, rfl, hm1, hm2⟩ : ∃ m : Nat, n = (m : Int) ∧ 2 ≤ m ∧ m ≤ 5 := ⟨n.toNat, by omega, by omega, by omega⟩
  rw [Int.toNat_natCast]
  have hmk := fun W => run_make_ints (n := m) (by omega) W
  clear hx hcell hn hs
  go_enter Tryz.func144, Tryz.ntmps144
  go_upto_region 7 with (first | (go_at_call 145; ((with_reducible refine (mul_any m _ hn0).mono ?_); rintro e w1 ⟨rfl, rfl⟩)))
  have hsz : (Tryz.prog.info? 3).map (fun i => i.size) = some 1 := by kernel_rfl
  have hne : g ≠ w.heap.size := by omega
  go_upto_region 8 with (refine wpList_copy_splice (o := ⟨some 33, _, _, _, _, _⟩) rfl (.tmp 31) (.tmp 32) 30 30 rfl 3 Tryz.underlying30 hsz (some ⟨w.heap.size, 0, none⟩) (some ⟨g, 0, none⟩) m m 1 c rfl rfl w.heap.size 0 (List.replicate m (.int .i64 0)) 3 ?q1 [.int .i64 x] ?q2 ?q3 ?q4 ?q5 w.heap.size w ?q6 (Nat.le_refl _) ?_)
  case q1 => rw [← made_repl]; exact heap_alloc_new _ _
  case q2 => rw [show Nat.min 1 m = min 1 m from rfl]; simp; omega
  case q3 =>
    intro j u hj
    have hj0 : j = 0 := by
      have := (List.getElem?_eq_some_iff.1 hj).1
      simp at this; exact this
    subst hj0
    injection hj with hj
    subst hj
    exact c0
  case q4 => simp; omega
  case q5 => simp [Value.oneCell']
  case q6 => (repeat (first | (with_reducible assumption) | (with_reducible exact Below.refl _ _) | ((with_reducible refine Below.alloc ?_ ?hsz _); (case hsz => (first | omega | (simp; done) | (simp; omega) | (simp at *; omega)))) | ((with_reducible refine Below.setCell ?_ ?hsz _); (case hsz => (first | omega | (simp; done) | (simp; omega) | (simp at *; omega)))) | (with_reducible refine Below.drew ?_) | (with_reducible refine below_drewN ?_ _) | ((with_reducible refine Below.trans ?_ (Below.mono (by with_reducible assumption) ?hsz)); (case hsz => (first | omega | (simp; done) | (simp; omega) | (simp at *; omega))))))
  intro w2 HG2 hB2
  have h20 : splice (List.replicate m (Value.int .i64 0)) 0 [Value.int .i64 x] = List.replicate 1 (Value.int .i64 x) ++ List.replicate (m - 1) (Value.int .i64 0) := by
    have := splice_repl m 0 1 (Value.int .i64 x) (Value.int .i64 0) (by omega)
    simpa using this
  replace HG2 := Lib.hid (show w2.heap[w.heap.size]? = some (.cells (List.replicate 1 (Value.int .i64 x) ++ List.replicate (m - 1) (Value.int .i64 0)).toArray 3 (0, 0)) by rw [← h20]; exact HG2.out)
  clear h20
  go_upto_region 8 with fail
  go_loopw [8] (fun i wr => ∃ k : Nat, 1 ≤ k ∧ k ≤ m ∧ i = .int .i64 k ∧ Hid (wr.heap[w.heap.size]? = some (.cells (List.replicate k (Value.int .i64 x) ++ List.replicate (m - k) (Value.int .i64 0)).toArray 3 (0, 0))) ∧ Below w.heap.size w wr) (fun i _ => m - (intOf i).toNat)
  case atStart => exact ⟨1, by omega, by omega, rfl, HG2, hB2⟩
  case round =>
    obtain ⟨k, hk0, hk, rfl, HG, hb⟩ := hrel
    clear HG2 hB2
    by_cases hlt : k < m
    · obtain ⟨d, hd⟩ : ∃ d, d = min k (m - k) := ⟨_, rfl⟩
      have hd1 : 1 ≤ d ∧ k + d ≤ m ∧ d ≤ k := by omega
      have hG := HG.out
      have hsrc : ∀ j v, (List.replicate d (Value.int .i64 x))[j]? = some v → wr.cell? ((⟨w.heap.size, 0, none⟩ : Addr).add j) = some v := by
        intro j v hj
        obtain ⟨hj1, hj2⟩ := List.getElem?_eq_some_iff.1 hj
        simp at hj1 hj2
        subst hj2
        rw [add_plain, Nat.zero_add, cell_of_row wr w.heap.size j _ _ (0, 0) hG, List.getElem?_toArray, List.getElem?_append_left (by simp; omega)]
        rw [List.getElem?_replicate, if_pos (by omega)]
      clear hG
      have hwr : IntKind.i64.wrap ((k : Int) + (d : Int)) = ((k + d : Nat) : Int) := by rw [IntWalk.i64_in _ (by omega)]; omega
      have hmk' : (m = k) = False := by simp; omega
      have hsrc := Lib.hid hsrc
      have hmin := Lib.hid hd
      clear hd
      go_upto_region 9 with fail
      go_region_law (refine step_copy_splice rfl (.tmp 41) (.tmp 44) 30 30 rfl 3 Tryz.underlying30 hsz (some ⟨w.heap.size, k, none⟩) (some ⟨w.heap.size, 0, none⟩) (m - k) (m - k) k m (by simp [Act.eval, Act.put]) (by simp [Act.eval, Act.put]) w.heap.size k (List.replicate k (Value.int .i64 x) ++ List.replicate (m - k) (Value.int .i64 0)) 3 HG.out (List.replicate d (Value.int .i64 x)) (by rw [show Nat.min k (m - k) = min k (m - k) from rfl, ← hmin.out]; simp) (fun _ => ⟨rfl, _, rfl, hsrc.out⟩) (by simp; omega) (by simp [Value.oneCell']) w.heap.size w (by (repeat (first | (with_reducible assumption) | (with_reducible exact Below.refl _ _) | ((with_reducible refine Below.alloc ?_ ?hsz _); (case hsz => (first | omega | (simp; done) | (simp; omega) | (simp at *; omega)))) | ((with_reducible refine Below.setCell ?_ ?hsz _); (case hsz => (first | omega | (simp; done) | (simp; omega) | (simp at *; omega)))) | (with_reducible refine Below.drew ?_) | (with_reducible refine below_drewN ?_ _) | ((with_reducible refine Below.trans ?_ (Below.mono (by with_reducible assumption) ?hsz)); (case hsz => (first | omega | (simp; done) | (simp; omega) | (simp at *; omega))))))) (Nat.le_refl _) ?_; intro w4 HG4 hB4)
      all_goals
        simp only [List.getElem_toArray, List.getElem_cons_succ, List.getElem_cons_zero, Act.put, List.setIfInBounds_toArray, List.set_cons_zero, List.set_cons_succ]
        have H5 := Lib.hid (show w4.heap[w.heap.size]? = some (.cells (List.replicate (k + d) (Value.int .i64 x) ++ List.replicate (m - (k + d)) (Value.int .i64 0)).toArray 3 (0, 0)) by
          rw [← splice_repl m k d _ _ hd1.2.1]; exact HG4.out)
        go_wp2

        go_roundw
        case rel => exact ⟨k + d, by omega, by omega, by go_num, H5, hB4⟩
        case measure => simp [intOf]; omega
    · have : k = m := by omega
      subst this
      go_wp2
      go_ret
      refine ⟨_, rfl, ⟨?_, by simp [small]; omega⟩, hb⟩
      have h := own_heap (e := 3) HG.out (m := k) (by simp) w.heap.size (Nat.le_refl _) (by unfold maxLen; omega)
      simpa using h

end Go.Proofs.YtmgpekdhcghabaaGreat
