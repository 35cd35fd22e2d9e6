/- Plain facts. -/
import Derived.Test.YtobbeofibkpbaaaGZ34
import Derived.Laws.CopyOwn
import Derived.Test.YtobbeofibkpbaaaGZ16
import Derived.Deep.RegionLaw
import Derived.Deep.DeepCutAuto
import Derived.Test.YtobbeofibkpbaaaGZ43
import Derived.Test.YtobbeofibkpbaaaMG
import Derived.Deep.RegionWith
/- Contracts of the functions of chapter 3 in the program: a row of one number, repeated. -/
namespace Go.Proofs.Ytobbeofibkpbaaa
open Go.RowKit

set_option maxHeartbeats 1000000 in
set_option maxRecDepth 20000 in
theorem mul64_any (n : Int) (w : World) (hn : n = 2 ∨ n = 3 ∨ n = 4 ∨ n = 5) :
    Calls Try.prog 182 #[.int .u64 1, .int .u64 n] w fun e w' => e = .returned (.tuple #[.int .u64 0, .int .u64 n]) ∧ w = w' := by
  rcases hn with rfl | rfl | rfl | rfl
  all_goals
    go_enter Try.func182, Try.ntmps182
    go_wp2
    go_ret2
    exact ⟨rfl, rfl⟩

set_option maxHeartbeats 1000000 in
set_option maxRecDepth 20000 in
theorem mul_any (n : Int) (w : World) (hn : n = 2 ∨ n = 3 ∨ n = 4 ∨ n = 5) :
    Calls Try.prog 165 #[.int .u64 1, .int .u64 n] w fun e w' => e = .returned (.tuple #[.int .u64 0, .int .u64 n]) ∧ w = w' := by
  have hn0 := hn
  go_enter Try.func165, Try.ntmps165
  go_wp2_with (first | (go_at_call 182; ((with_reducible refine (mul64_any n _ hn0).mono ?_); rintro e w1 ⟨rfl, rfl⟩)))
  go_ret2
  exact ⟨rfl, rfl⟩

theorem splice_repl {α : Type} (m k d : Nat) (X Z : α) (hd : k + d ≤ m) : splice (List.replicate k X ++ List.replicate (m - k) Z) k (List.replicate d X) = List.replicate (k + d) X ++ List.replicate (m - (k + d)) Z := by
  unfold splice
  rw [List.length_replicate, List.take_append_of_le_length (by simp), List.take_of_length_le (by simp), List.drop_append, List.drop_of_length_le (by simp), List.length_replicate, List.drop_replicate, List.nil_append, ← List.append_assoc, List.replicate_append_replicate]
  congr 2
  omega
theorem made_repl (m : Nat) : (madeCells #[.int .i64 0] m : Array Value) = (List.replicate m (Value.int .i64 0)).toArray := by
  apply Array.ext'
  rw [toList_madeCells_one]
theorem own_heap {w : World} {g m : Nat} {e : TypeId} {xs : List Value} (h : w.heap[g]? = some (.cells xs.toArray e (0, 0))) (hl : xs.length = m) (b : Nat) (hb : b ≤ g) (hm : m ≤ maxLen) : w.ownsRow b e 1 (.slice (some ⟨g, 0, none⟩) m m) m xs := by
  refine ⟨by omega, .inr ⟨g, m, xs.toArray, rfl, hb, h, Nat.le_refl _, hm, by simp; omega, ?_⟩⟩
  rw [List.take_of_length_le (by simp; omega)]

set_option maxHeartbeats 2000000 in
set_option maxRecDepth 20000 in
theorem repeat_any (v : Value) (x n : Int) (b : Nat) (w : World) (hx : Ints w b v [x]) (hn : n = 2 ∨ n = 3 ∨ n = 4 ∨ n = 5) :
    Calls Try.prog 126 #[v, .int .i64 n] w fun e w' => ∃ r, e = .returned r ∧ Ints w' w.heap.size r (List.replicate n.toNat x) ∧ Below w.heap.size w w' := by
  obtain ⟨A, c, rfl, hc1, hc2, hs, hcell⟩ := hx.form
  unfold maxLen at hc2
  obtain ⟨g, rfl, hg1, hg2, c0, f0⟩ := hcell w (Below.refl _ _) 0 (by simp)
  replace c0 : w.cell? ⟨g, 0, none⟩ = some (.int .i64 x) := c0
  replace hc1 : 1 ≤ c := hc1
  rw [show [x].length = 1 from rfl]
  have hn0 := hn
  obtain ⟨m, rfl, hm1, hm2⟩ : ∃ m : Nat, n = (m : Int) ∧ 2 ≤ m ∧ m ≤ 5 := ⟨n.toNat, by omega, by omega, by omega⟩
  rw [Int.toNat_natCast]
  have hmk := fun W => run_make_ints (n := m) (by omega) W
  clear hx hcell hn hs
  go_enter Try.func126, Try.ntmps126
  go_upto_region 7 with (first | (go_at_call 165; ((with_reducible refine (mul_any m _ hn0).mono ?_); rintro e w1 ⟨rfl, rfl⟩)))
  have hsz : (Try.prog.info? 3).map (fun i => i.size) = some 1 := by kernel_rfl
  have hne : g ≠ w.heap.size := by omega
  go_upto_region 8 with (refine wpList_copy_splice (o := ⟨some 33, _, _, _, _, _⟩) rfl (.tmp 31) (.tmp 32) 28 28 rfl 3 Try.underlying28 hsz (some ⟨w.heap.size, 0, none⟩) (some ⟨g, 0, none⟩) m m 1 c rfl rfl w.heap.size 0 (List.replicate m (.int .i64 0)) 3 ?q1 [.int .i64 x] ?q2 ?q3 ?q4 ?q5 w.heap.size w ?q6 (Nat.le_refl _) ?_)
  case q1 => rw [← made_repl]; exact heap_alloc_new _ _
  case q2 => rw [show Nat.min 1 m = min 1 m from rfl]; simp; omega
  case q3 =>
    intro j u hj
    have hj0 : j = 0 := by
      have := (List.getElem?_eq_some_iff.1 hj).1
      simp at this; exact this
    subst hj0
    injection hj with hj
    subst hj
    exact c0
  case q4 => simp; omega
  case q5 => simp [Value.oneCell']
  case q6 => (repeat (first | (with_reducible assumption) | (with_reducible exact Below.refl _ _) | ((with_reducible refine Below.alloc ?_ ?hsz _); (case hsz => (first | omega | (simp; done) | (simp; omega) | (simp at *; omega)))) | ((with_reducible refine Below.setCell ?_ ?hsz _); (case hsz => (first | omega | (simp; done) | (simp; omega) | (simp at *; omega)))) | (with_reducible refine Below.drew ?_) | (with_reducible refine below_drewN ?_ _) | ((with_reducible refine Below.trans ?_ (Below.mono (by with_reducible assumption) ?hsz)); (case hsz => (first | omega | (simp; done) | (simp; omega) | (simp at *; omega))))))
  intro w2 HG2 hB2
  have h20 : splice (List.replicate m (Value.int .i64 0)) 0 [Value.int .i64 x] = List.replicate 1 (Value.int .i64 x) ++ List.replicate (m - 1) (Value.int .i64 0) := by
    have := splice_repl m 0 1 (Value.int .i64 x) (Value.int .i64 0) (by omega)
    simpa using this
  replace HG2 := Lib.hid (show w2.heap[w.heap.size]? = some (.cells (List.replicate 1 (Value.int .i64 x) ++ List.replicate (m - 1) (Value.int .i64 0)).toArray 3 (0, 0)) by rw [← h20]; exact HG2.out)
  clear h20
  go_upto_region 8 with fail
  go_loopw [8] (fun i wr => ∃ k : Nat, 1 ≤ k ∧ k ≤ m ∧ i = .int .i64 k ∧ Hid (wr.heap[w.heap.size]? = some (.cells (List.replicate k (Value.int .i64 x) ++ List.replicate (m - k) (Value.int .i64 0)).toArray 3 (0, 0))) ∧ Below w.heap.size w wr) (fun i _ => m - (intOf i).toNat)
  case atStart => exact ⟨1, by omega, by omega, rfl, HG2, hB2⟩
  case round =>
    obtain ⟨k, hk0, hk, rfl, HG, hb⟩ := hrel
    clear HG2 hB2
    by_cases hlt : k < m
    · obtain ⟨d, hd⟩ : ∃ d, d = min k (m - k) := ⟨_, rfl⟩
      have hd1 : 1 ≤ d ∧ k + d ≤ m ∧ d ≤ k := by omega
      have hG := HG.out
      have hsrc : ∀ j v, (List.replicate d (Value.int .i64 x))[j]? = some v → wr.cell? ((⟨w.heap.size, 0, none⟩ : Addr).add j) = some v := by
        intro j v hj
        obtain ⟨hj1, hj2⟩ := List.getElem?_eq_some_iff.1 hj
        simp at hj1 hj2
        subst hj2
        rw [add_plain, Nat.zero_add, cell_of_row wr w.heap.size j _ _ (0, 0) hG, List.getElem?_toArray, List.getElem?_append_left (by simp; omega)]
        rw [List.getElem?_replicate, if_pos (by omega)]
      clear hG
      have hwr : IntKind.i64.wrap ((k : Int) + (d : Int)) = ((k + d : Nat) : Int) := by rw [IntWalk.i64_in _ (by omega)]; omega
      have hmk' : (m = k) = False := by simp; omega
      have hsrc := Lib.hid hsrc
      have hmin := Lib.hid hd
      clear hd
      go_upto_region 9 with fail
      go_region_law (refine step_copy_splice rfl (.tmp 41) (.tmp 44) 28 28 rfl 3 Try.underlying28 hsz (some ⟨w.heap.size, k, none⟩) (some ⟨w.heap.size, 0, none⟩) (m - k) (m - k) k m (by simp [Act.eval, Act.put]) (by simp [Act.eval, Act.put]) w.heap.size k (List.replicate k (Value.int .i64 x) ++ List.replicate (m - k) (Value.int .i64 0)) 3 HG.out (List.replicate d (Value.int .i64 x)) (by rw [show Nat.min k (m - k) = min k (m - k) from rfl, ← hmin.out]; simp) (fun _ => ⟨rfl, _, rfl, hsrc.out⟩) (by simp; omega) (by simp [Value.oneCell']) w.heap.size w (by (repeat (first | (with_reducible assumption) | (with_reducible exact Below.refl _ _) | ((with_reducible refine Below.alloc ?_ ?hsz _); (case hsz => (first | omega | (simp; done) | (simp; omega) | (simp at *; omega)))) | ((with_reducible refine Below.setCell ?_ ?hsz _); (case hsz => (first | omega | (simp; done) | (simp; omega) | (simp at *; omega)))) | (with_reducible refine Below.drew ?_) | (with_reducible refine below_drewN ?_ _) | ((with_reducible refine Below.trans ?_ (Below.mono (by with_reducible assumption) ?hsz)); (case hsz => (first | omega | (simp; done) | (simp; omega) | (simp at *; omega))))))) (Nat.le_refl _) ?_; intro w4 HG4 hB4)
      all_goals
        simp only [List.getElem_toArray, List.getElem_cons_succ, List.getElem_cons_zero, Act.put, List.setIfInBounds_toArray, List.set_cons_zero, List.set_cons_succ]
        have H5 := Lib.hid (show w4.heap[w.heap.size]? = some (.cells (List.replicate (k + d) (Value.int .i64 x) ++ List.replicate (m - (k + d)) (Value.int .i64 0)).toArray 3 (0, 0)) by
          rw [← splice_repl m k d _ _ hd1.2.1]; exact HG4.out)
        go_wp2

        go_roundw
        case rel => exact ⟨k + d, by omega, by omega, by go_num, H5, hB4⟩
        case measure => simp [intOf]; omega
    · have : k = m := by omega
      subst this
      go_wp2
      go_ret
      refine ⟨_, rfl, ⟨?_, by simp [small]; omega⟩, hb⟩
      have h := own_heap (e := 3) HG.out (m := k) (by simp) w.heap.size (Nat.le_refl _) (by unfold maxLen; omega)
      simpa using h

end Go.Proofs.Ytobbeofibkpbaaa

/- Contracts of the functions of chapter 3 in the program: how few steps are left. -/
namespace Go.Proofs.Ytobbeofibkpbaaa
open Go.RowKit

theorem relaxes_snoc (L : List Int) (E : List (Int × Int)) (k : Nat) (hk : k < E.length) : relaxes L (E.take (k + 1)) = relax1 (relaxes L (E.take k)) E[k] := by
  rw [List.take_succ_eq_append_getElem hk, relaxes, List.foldl_append]
  rfl

set_option maxHeartbeats 2000000 in
set_option maxRecDepth 20000 in
theorem stepsLeft_any (n tt : Int) (v u : Value) (ps : List Pp) (xs : List Int) (b b' : Nat) (w : World) (hp : Pipes w b v ps) (hx : Ints w b' u (openL ps xs)) (hn : netOkB n ps = true) (h0 : 0 ≤ tt) (h1 : tt < n) :
    Calls Try.prog 70 #[.agg #[.int .i64 n, v], u, .int .i64 tt] w fun e w' => ∃ r, e = .returned r ∧ Ints w' w.heap.size r (dstL (edgL ps xs) n.toNat tt) ∧ Below w.heap.size w w' := by
  have hp0 := hp
  have hx0 := hx
  obtain ⟨A, c, rfl, hc1, hc2, hsm, -⟩ := hp.form
  obtain ⟨A', c', rfl, hc1', hc2', hsm', hcell'⟩ := hx.form
  unfold maxLen at hc2 hc2'
  obtain ⟨n2, n5, hl7, -⟩ := netOk_parts hn
  obtain ⟨N, rfl⟩ : ∃ N : Nat, n = (N : Int) := ⟨n.toNat, by omega⟩
  obtain ⟨T, rfl⟩ : ∃ T : Nat, tt = (T : Int) := ⟨tt.toNat, by omega⟩
  rw [Int.toNat_natCast] at *
  have HE := Lib.hid (edg_in hn xs)
  rw [Int.toNat_natCast] at HE
  have hn4 : (N : Int) = 2 ∨ (N : Int) = 3 ∨ (N : Int) = 4 ∨ (N : Int) = 5 := by omega
  have HN := Lib.hid hn
  have Hm := Lib.hid hcell'
  clear hn hcell'
  have hlS : (openL ps xs).length = (stL ps xs).length := by simp [openL_eq]
  rw [hlS] at hc1' hsm' ⊢
  have hlS := Lib.hid hlS
  go_enter Try.func70, Try.ntmps70
  go_wp2_with fail
  refine (repeat_any _ (N : Int) (N : Int) w.heap.size _ (Ints_one _ _ (by (first | omega | (simp; done) | (simp; omega) | (simp at *; omega))) (by (first | omega | (simp; done) | (simp; omega) | (simp at *; omega)))) hn4).mono ?_
  rintro e w1 ⟨r, rfl, hr, hb1⟩
  obtain ⟨gl, cl, rfl, hR⟩ := hr.row (by simp; omega)
  rw [Int.toNat_natCast, List.length_replicate] at *
  obtain ⟨hg1, hg2⟩ := hR.lt
  obtain ⟨hcl1, hcl2⟩ := hR.capd
  unfold maxLen at hcl2
  have hbx : Box2 w1 w.heap.size (.int .i64 N) (.slice A ps.length c) := (((Box2.new w _ _ 25).keep ((Below.refl _ _).alloc (Nat.le_refl _) _)).keep hb1)
  have hB : Below w.heap.size w w1 := by (repeat (first | (with_reducible assumption) | (with_reducible exact Below.refl _ _) | ((with_reducible refine Below.alloc ?_ ?hsz _); (case hsz => (first | omega | (simp; done) | (simp; omega) | (simp at *; omega)))) | ((with_reducible refine Below.setCell ?_ ?hsz _); (case hsz => (first | omega | (simp; done) | (simp; omega) | (simp at *; omega)))) | (with_reducible refine Below.drew ?_) | (with_reducible refine below_drewN ?_ _) | ((with_reducible refine Below.trans ?_ (Below.mono (by with_reducible assumption) ?hsz)); (case hsz => (first | omega | (simp; done) | (simp; omega) | (simp at *; omega))))))
  obtain ⟨y0, y1⟩ := hR.at' T (by omega)
  have hg3 : w.heap.size + 2 ≤ gl := by (first | omega | (simp; done) | (simp; omega) | (simp at *; omega))
  obtain ⟨bs, d0, d1, -, -⟩ := id hbx
  have hR0 : Row (w1.setCell ⟨gl, T, none⟩ (.int .i64 0)) (w.heap.size + 2) gl N cl (leftR (edgL ps xs) (left0 N T) 0) := by
    have h := (hR.set T 0).mono (b' := w.heap.size + 2) (by (first | omega | (simp; done) | (simp; omega) | (simp at *; omega)))
    simpa [leftR, left0] using h
  have HR0 := Lib.hid hR0
  clear hr hR hR0 hb1
  go_wp2_with fail
  go_loopw [24] (fun i wr => ∃ r : Nat, r ≤ N - 1 ∧ i = .int .i64 r ∧ Row wr (w.heap.size + 2) gl N cl (leftR (edgL ps xs) (left0 N T) r) ∧ Box2 wr w.heap.size (.int .i64 N) (.slice A ps.length c) ∧ Below w.heap.size w wr) (fun i _ => N - 1 - (intOf i).toNat)
  case atStart => exact ⟨0, by omega, rfl, HR0.out, hbx.far (by simp; omega) _, by (repeat (first | (with_reducible assumption) | (with_reducible exact Below.refl _ _) | ((with_reducible refine Below.alloc ?_ ?hsz _); (case hsz => (first | omega | (simp; done) | (simp; omega) | (simp at *; omega)))) | ((with_reducible refine Below.setCell ?_ ?hsz _); (case hsz => (first | omega | (simp; done) | (simp; omega) | (simp at *; omega)))) | (with_reducible refine Below.drew ?_) | (with_reducible refine below_drewN ?_ _) | ((with_reducible refine Below.trans ?_ (Below.mono (by with_reducible assumption) ?hsz)); (case hsz => (first | omega | (simp; done) | (simp; omega) | (simp at *; omega))))))⟩
  case round =>
    obtain ⟨r, hr, rfl, hR, bx, hb⟩ := hrel
    clear y0 y1 HR0 hB hbx d0 d1 bs
    by_cases hlt : r < N - 1
    · obtain ⟨bs, d0, d1, -, -⟩ := id bx
      have hin0 := hR
      have hdlt : decide ((r : Int) < (N : Int) - 1) = true := by simp; omega
      go_wp2_with fail
      have Hlt := Lib.hid hlt
      clear hlt
      go_loopw [28] (fun t wr => ∃ k : Nat, k ≤ (stL ps xs).length ∧ t = .int .i64 k ∧ Row wr (w.heap.size + 2) gl N cl (relaxes (leftR (edgL ps xs) (left0 N T) r) ((edgL ps xs).take k)) ∧ Box2 wr w.heap.size (.int .i64 N) (.slice A ps.length c) ∧ Below w.heap.size w wr) (fun t _ => (stL ps xs).length - (intOf t).toNat)
      case atStart => exact ⟨0, by omega, rfl, by simpa [relaxes] using hR, bx, hb⟩
      case round =>
        clear hR bx hb d0 d1 bs hin0
        obtain ⟨k, hk, rfl, hR, bx, hb⟩ := hrel
        obtain ⟨bs, d0, d1, -, -⟩ := id bx
        have hEl : (edgL ps xs).length = (stL ps xs).length := by simp [edgL]
        by_cases hlt2 : k < (stL ps xs).length
        · obtain ⟨g', rfl, hg1', hg2', c0', f0'⟩ := Hm.out wr hb k (by rw [hlS.out]; exact hlt2)
          obtain ⟨s, hs⟩ : ∃ s, (stL ps xs)[k] = s := ⟨_, rfl⟩
          have hsm := stL_mem.1 (hs ▸ List.getElem_mem hlt2)
          have hcs : wr.cell? ⟨g', k, none⟩ = some (.int .i64 (s : Int)) := by rw [c0']; simp [openL_eq, hs]
          obtain ⟨⟨a0, a1⟩, ⟨e0, e1⟩, -⟩ := st_ends HN.out hsm.1
          obtain ⟨a, ha⟩ : ∃ a : Nat, stFr ps s = (a : Int) := ⟨(stFr ps s).toNat, by omega⟩
          obtain ⟨e, he⟩ : ∃ e : Nat, stTo ps s = (e : Int) := ⟨(stTo ps s).toNat, by omega⟩
          have hE : (edgL ps xs)[k]'(by rw [hEl]; exact hlt2) = ((a : Int), (e : Int)) := by simp [edgL, stE, hs, ha, he]
          have hsn := relaxes_snoc (leftR (edgL ps xs) (left0 N T) r) (edgL ps xs) k (by rw [hEl]; exact hlt2)
          rw [hE] at hsn
          obtain ⟨so1, -, -⟩ := relaxes_sound (F := (edgL ps xs).take k) HE.out (fun x hx => List.mem_of_mem_take hx) (leftR_sound HE.out (c := (T : Int)) (by omega) r).1
          generalize hL : relaxes (leftR (edgL ps xs) (left0 N T) r) ((edgL ps xs).take k) = L at *
          have hsa := so1.2 a (by omega)
          have hse := so1.2 e (by omega)
          rw [ha] at a0 a1
          rw [he] at e0 e1
          obtain ⟨la, hla⟩ : ∃ la, L.getD a 0 = la := ⟨_, rfl⟩
          obtain ⟨le, hle⟩ : ∃ le, L.getD e 0 = le := ⟨_, rfl⟩
          have hnew : relax1 L ((a : Int), (e : Int)) = L.set a (if le + 1 < la then le + 1 else la) := by
            show L.set a (min (L.getD a 0) (L.getD e 0 + 1)) = _
            rw [hla, hle]
            congr 1
            split <;> omega
          rw [hnew] at hsn
          rw [hla] at hsa
          rw [hle] at hse
          have hl0 : 0 ≤ la ∧ la ≤ N ∧ 0 ≤ le ∧ le ≤ N := by omega
          have Hsn := Lib.hid hsn
          have HL := Lib.hid hL
          clear hsn hE hnew so1 hsa hse hL c0'
          go_wp2_with fail
          with_reducible refine (stepEnds_any s _ ps b _ (hp0.keep hb) hsm.1 hl7).mono ?_
          rintro e w2 ⟨rfl, hb2⟩
          rw [ha, he]
          have hR2 := hR.keep hb2
          have bx2 := bx.keep hb2
          have hbw2 : Below w.heap.size w w2 := by (repeat (first | (with_reducible assumption) | (with_reducible exact Below.refl _ _) | ((with_reducible refine Below.alloc ?_ ?hsz _); (case hsz => (first | omega | (simp; done) | (simp; omega) | (simp at *; omega)))) | ((with_reducible refine Below.setCell ?_ ?hsz _); (case hsz => (first | omega | (simp; done) | (simp; omega) | (simp at *; omega)))) | (with_reducible refine Below.drew ?_) | (with_reducible refine below_drewN ?_ _) | ((with_reducible refine Below.trans ?_ (Below.mono (by with_reducible assumption) ?hsz)); (case hsz => (first | omega | (simp; done) | (simp; omega) | (simp at *; omega))))))
          clear hR bx hb hb2 bs d0 d1 f0' hcs
          obtain ⟨y0, y1⟩ := hR2.at' a (by omega)
          obtain ⟨z0, -⟩ := hR2.at' e (by omega)
          rw [hla] at y0
          rw [hle] at z0
          have hg9 := hR2.lt
          by_cases hcl : le + 1 < la
          · rw [if_pos hcl] at Hsn
            go_upto_region 9 with fail
            go_region
            have hR3 := (hR2.set a (le + 1)).drew
            rw [← Hsn.out] at hR3
            have HR3 := Lib.hid hR3
            clear hR3 hR2
            go_wp2
            go_roundw
            case rel => exact ⟨k + 1, by omega, by go_num, HR3.out, (bx2.far (by simp; omega) _), by (repeat (first | (with_reducible assumption) | (with_reducible exact Below.refl _ _) | ((with_reducible refine Below.alloc ?_ ?hsz _); (case hsz => (first | omega | (simp; done) | (simp; omega) | (simp at *; omega)))) | ((with_reducible refine Below.setCell ?_ ?hsz _); (case hsz => (first | omega | (simp; done) | (simp; omega) | (simp at *; omega)))) | (with_reducible refine Below.drew ?_) | (with_reducible refine below_drewN ?_ _) | ((with_reducible refine Below.trans ?_ (Below.mono (by with_reducible assumption) ?hsz)); (case hsz => (first | omega | (simp; done) | (simp; omega) | (simp at *; omega))))))⟩
            case measure => simp [intOf]; omega
          · rw [if_neg hcl] at Hsn
            go_upto_region 9 with fail
            go_region
            have hR3 := (hR2.set a (la)).drew
            rw [← Hsn.out] at hR3
            have HR3 := Lib.hid hR3
            clear hR3 hR2
            go_wp2
            go_roundw
            case rel => exact ⟨k + 1, by omega, by go_num, HR3.out, (bx2.far (by simp; omega) _), by (repeat (first | (with_reducible assumption) | (with_reducible exact Below.refl _ _) | ((with_reducible refine Below.alloc ?_ ?hsz _); (case hsz => (first | omega | (simp; done) | (simp; omega) | (simp at *; omega)))) | ((with_reducible refine Below.setCell ?_ ?hsz _); (case hsz => (first | omega | (simp; done) | (simp; omega) | (simp at *; omega)))) | (with_reducible refine Below.drew ?_) | (with_reducible refine below_drewN ?_ _) | ((with_reducible refine Below.trans ?_ (Below.mono (by with_reducible assumption) ?hsz)); (case hsz => (first | omega | (simp; done) | (simp; omega) | (simp at *; omega))))))⟩
            case measure => simp [intOf]; omega
        · go_wp2
          have hk2 : k = (stL ps xs).length := by omega
          subst hk2
          rw [← hEl, List.take_length] at hR
          go_roundw
          case rel => exact ⟨r + 1, by have := Hlt.out; omega, by have := Hlt.out; go_num, hR, bx, hb⟩
          case measure => have := Hlt.out; simp [intOf]; omega
    · obtain ⟨bs, d0, d1, -, -⟩ := id bx
      go_wp2
      go_ret
      have hr2 : r = N - 1 := by omega
      subst hr2
      rw [leftR_dst HE.out (by omega)] at hR
      exact ⟨_, rfl, hR.ints.mono (by omega), hb⟩

end Go.Proofs.Ytobbeofibkpbaaa
