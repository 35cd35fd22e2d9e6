/- Contracts of the functions of chapter 3 in the program: how few steps are left. -/
import Derived.Test.YtmgpekdhcghabaaGreatWE0
import Derived.Test.YtmgpekdhcghabaaGreatGR7
import Derived.Test.YtmgpekdhcghabaaGreatMG
import Derived.Deep.RegionWith
namespace Go.Proofs.YtmgpekdhcghabaaGreat
open Go.RowKit

theorem relaxes_snoc (L : List Int) (E : List (Int × Int)) (k : Nat) (hk : k < E.length) : relaxes L (E.take (k + 1)) = relax1 (relaxes L (E.take k)) E[k] := by
  rw [List.take_succ_eq_append_getElem hk, relaxes, List.foldl_append]
  rfl

set_option maxHeartbeats 2000000 in
set_option maxRecDepth 20000 in
theorem stepsLeft_any (n tt : Int) (v u : Value) (ps : List Pp) (xs : List Int) (b b' : Nat) (w : World) (hp : Pipes w b v ps) (hx : Ints w b' u (openL ps xs)) (hn : netOkB n ps = true) (h0 : 0 ≤ tt) (h1 : tt < n) :
    Calls Tryz.prog 140 #[.agg #[.int .i64 n, v], u, .int .i64 tt] w fun e w' => ∃ r, e = .returned r ∧ Ints w' w.heap.size r (dstL (edgL ps xs) n.toNat tt) ∧ Below w.heap.size w w' := by
  have hp0 := hp
  have hx0 := hx
  obtain ⟨A, c, rfl, hc1, hc2, hsm, -⟩ := hp.form
  obtain ⟨A', c', rfl, hc1', hc2', hsm', hcell'⟩ := hx.form
  unfold maxLen at hc2 hc2'
  obtain ⟨n2, n5, hl7, -⟩ := netOk_parts hn
  obtain ⟨N, rfl⟩ : ∃ N : Nat, n = (N : Int) := ⟨n.toNat, by omega⟩
  obtain ⟨T, rfl⟩ : ∃ T : Nat, tt = (T : Int) := ⟨tt.toNat, by omega⟩
  rw [Int.toNat_natCast] at *
  have HE := Lib.hid (edg_in hn xs)
  rw [Int.toNat_natCast] at HE
  have hn4 : (N : Int) = 2 ∨ (N : Int) = 3 ∨ (N : Int) = 4 ∨ (N : Int) = 5 := by omega
  have HN := Lib.hid hn
  have Hm := Lib.hid hcell'
  clear hn hcell'
  have hlS : (openL ps xs).length = (stL ps xs).length := by simp [openL_eq]
  rw [hlS] at hc1' hsm' ⊢
  have hlS := Lib.hid hlS
  go_enter Tryz.func140, Tryz.ntmps140
  go_wp2_with fail
  refine (repeat_any _ (N : Int) (N : Int) w.heap.size _ (Ints_one _ _ (by (first | omega | (simp; done) | (simp; omega) | (simp at *; omega))) (by (first | omega | (simp; done) | (simp; omega) | (simp at *; omega)))) hn4).mono ?_
  rintro e w1 ⟨r, rfl, hr, hb1⟩
  obtain ⟨gl, cl, rfl, hR⟩ := hr.row (by simp; omega)
  rw [Int.toNat_natCast, List.length_replicate] at *
  obtain ⟨hg1, hg2⟩ := hR.lt
  obtain ⟨hcl1, hcl2⟩ := hR.capd
  unfold maxLen at hcl2
  have hbx : Box2 w1 w.heap.size (.int .i64 N) (.slice A ps.length c) := (((Box2.new w _ _ 25).keep ((Below.refl _ _).alloc (Nat.le_refl _) _)).keep hb1)
  have hB : Below w.heap.size w w1 := by (repeat (first | (with_reducible assumption) | (with_reducible exact Below.refl _ _) | ((with_reducible refine Below.alloc ?_ ?hsz _); (case hsz => (first | omega | (simp; done) | (simp; omega) | (simp at *; omega)))) | ((with_reducible refine Below.setCell ?_ ?hsz _); (case hsz => (first | omega | (simp; done) | (simp; omega) | (simp at *; omega)))) | (with_reducible refine Below.drew ?_) | (with_reducible refine below_drewN ?_ _) | ((with_reducible refine Below.trans ?_ (Below.mono (by with_reducible assumption) ?hsz)); (case hsz => (first | omega | (simp; done) | (simp; omega) | (simp at *; omega))))))
  obtain ⟨y0, y1⟩ := hR.at' T (by omega)
  have hg3 : w.heap.size + 2 ≤ gl := by (first | omega | (simp; done) | (simp; omega) | (simp at *; omega))
  obtain ⟨bs, d0, d1, -, -⟩ := id hbx
  have hR0 : Row (w1.setCell ⟨gl, T, none⟩ (.int .i64 0)) (w.heap.size + 2) gl N cl (leftR (edgL ps xs) (left0 N T) 0) := by
    have h := (hR.set T 0).mono (b' := w.heap.size + 2) (by (first | omega | (simp; done) | (simp; omega) | (simp at *; omega)))
    simpa [leftR, left0] using h
  have HR0 := Lib.hid hR0
  clear hr hR hR0 hb1
  go_wp2_with fail
  go_loopw [24] (fun i wr => ∃ r : Nat, r ≤ N - 1 ∧ i = .int .i64 r ∧ Row wr (w.heap.size + 2) gl N cl (leftR (edgL ps xs) (left0 N T) r) ∧ Box2 wr w.heap.size (.int .i64 N) (.slice A ps.length c) ∧ Below w.heap.size w wr) (fun i _ => N - 1 - (intOf i).toNat)
  case atStart => exact ⟨0, by omega, rfl, HR0.out, hbx.far (by simp; omega) _, by (repeat (first | (with_reducible assumption) | (with_reducible exact Below.refl _ _) | ((with_reducible refine Below.alloc ?_ ?hsz _); (case hsz => (first | omega | (simp; done) | (simp; omega) | (simp at *; omega)))) | ((with_reducible refine Below.setCell ?_ ?hsz _); (case hsz => (first | omega | (simp; done) | (simp; omega) | (simp at *; omega)))) | (with_reducible refine Below.drew ?_) | (with_reducible refine below_drewN ?_ _) | ((with_reducible refine Below.trans ?_ (Below.mono (by with_reducible assumption) ?hsz)); (case hsz => (first | omega | (simp; done) | (simp; omega) | (simp at *; omega))))))⟩
  case round =>
    obtain ⟨r, hr, rfl, hR, bx, hb⟩ := hrel
    clear y0 y1 HR0 hB hbx d0 d1 bs
    by_cases hlt : r < N - 1
    · obtain ⟨bs, d0, d1, -, -⟩ := id bx
      have hin0 := hR
      have hdlt : decide ((r : Int) < (N : Int) - 1) = true := by simp; omega
      go_wp2_with fail
      have Hlt := Lib.hid hlt
      clear hlt
      go_loopw [28] (fun t wr => ∃ k : Nat, k ≤ (stL ps xs).length ∧ t = .int .i64 k ∧ Row wr (w.heap.size + 2) gl N cl (relaxes (leftR (edgL ps xs) (left0 N T) r) ((edgL ps xs).take k)) ∧ Box2 wr w.heap.size (.int .i64 N) (.slice A ps.length c) ∧ Below w.heap.size w wr) (fun t _ => (stL ps xs).length - (intOf t).toNat)
      case atStart => exact ⟨0, by omega, rfl, by simpa [relaxes] using hR, bx, hb⟩
      case round =>
        clear hR bx hb d0 d1 bs hin0
        obtain ⟨k, hk, rfl, hR, bx, hb⟩ := hrel
        obtain ⟨bs, d0, d1, -, -⟩ := id bx
        have hEl : (edgL ps xs).length = (stL ps xs).length := by simp [edgL]
        by_cases hlt2 : k < (stL ps xs).length
        · obtain ⟨g', rfl, hg1', hg2', c0', f0'⟩ := Hm.out wr hb k (by rw [hlS.out]; exact hlt2)
          obtain ⟨s, hs⟩ : ∃ s, (stL ps xs)[k] = s := ⟨_, rfl⟩
          have hsm := stL_mem.1 (hs ▸ List.getElem_mem hlt2)
          have hcs : wr.cell? ⟨g', k, none⟩ = some (.int .i64 (s : Int)) := by rw [c0']; simp [openL_eq, hs]
          obtain ⟨⟨a0, a1⟩, ⟨e0, e1⟩, -⟩ := st_ends HN.out hsm.1
          obtain ⟨a, ha⟩ : ∃ a : Nat, stFr ps s = (a : Int) := ⟨(stFr ps s).toNat, by omega⟩
          obtain ⟨e, he⟩ : ∃ e : Nat, stTo ps s = (e : Int) := ⟨(stTo ps s).toNat, by omega⟩
          have hE : (edgL ps xs)[k]'(by rw [hEl]; exact hlt2) = ((a : Int), (e : Int)) := by simp [edgL, stE, hs, ha, he]
          have hsn := relaxes_snoc (leftR (edgL ps xs) (left0 N T) r) (edgL ps xs) k (by rw [hEl]; exact hlt2)
          rw [hE] at hsn
          obtain ⟨so1, -, -⟩ := relaxes_sound (F := (edgL ps xs).take k) HE.out (fun x hx => List.mem_of_mem_take hx) (leftR_sound HE.out (c := (T : Int)) (by omega) r).1
          generalize hL : relaxes (leftR (edgL ps xs) (left0 N T) r) ((edgL ps xs).take k) = L at *
          have hsa := so1.2 a (by omega)
          have hse := so1.2 e (by omega)
          rw [ha] at a0 a1
          rw [he] at e0 e1
          obtain ⟨la, hla⟩ : ∃ la, L.getD a 0 = la := ⟨_, rfl⟩
          obtain ⟨le, hle⟩ : ∃ le, L.getD e 0 = le := ⟨_, rfl⟩
          have hnew : relax1 L ((a : Int), (e : Int)) = L.set a (if le + 1 < la then le + 1 else la) := by
            show L.set a (min (L.getD a 0) (L.getD e 0 + 1)) = _
            rw [hla, hle]
            congr 1
            split <;> omega
          rw [hnew] at hsn
          rw [hla] at hsa
          rw [hle] at hse
          have hl0 : 0 ≤ la ∧ la ≤ N ∧ 0 ≤ le ∧ le ≤ N := by omega
          have Hsn := Lib.hid hsn
          have HL := Lib.hid hL
          clear hsn hE hnew so1 hsa hse hL c0'
          go_wp2_with fail
          with_reducible refine (stepEnds_any s _ ps b _ (hp0.keep hb) hsm.1 hl7).mono ?_
          rintro e w2 ⟨rfl, hb2⟩
          rw [ha, he]
          have hR2 := hR.keep hb2
          have bx2 := bx.keep hb2
          have hbw2 : Below w.heap.size w w2 := by (repeat (first | (with_reducible assumption) | (with_reducible exact Below.refl _ _) | ((with_reducible refine Below.alloc ?_ ?hsz _); (case hsz => (first | omega | (simp; done) | (simp; omega) | (simp at *; omega)))) | ((with_reducible refine Below.setCell ?_ ?hsz _); (case hsz => (first | omega | (simp; done) | (simp; omega) | (simp at *; omega)))) | (with_reducible refine Below.drew ?_) | (with_reducible refine below_drewN ?_ _) | ((with_reducible refine Below.trans ?_ (Below.mono (by with_reducible assumption) ?hsz)); (case hsz => (first | omega | (simp; done) | (simp; omega) | (simp at *; omega))))))
          clear hR bx hb hb2 bs d0 d1 f0' hcs
          obtain ⟨y0, y1⟩ := hR2.at' a (by omega)
          obtain ⟨z0, -⟩ := hR2.at' e (by omega)
          rw [hla] at y0
          rw [hle] at z0
          have hg9 := hR2.lt
          by_cases hcl : le + 1 < la
          · rw [if_pos hcl] at Hsn
            go_upto_region 9 with fail
            go_region
            have hR3 := (hR2.set a (le + 1)).drew
            rw [← Hsn.out] at hR3
            have HR3 := Lib.hid hR3
            clear hR3 hR2
            go_wp2
            go_roundw
            case rel => exact ⟨k + 1, by omega, by go_num, HR3.out, (bx2.far (by simp; omega) _), by (repeat (first | (with_reducible assumption) | (with_reducible exact Below.refl _ _) | ((with_reducible refine Below.alloc ?_ ?hsz _); (case hsz => (first | omega | (simp; done) | (simp; omega) | (simp at *; omega)))) | ((with_reducible refine Below.setCell ?_ ?hsz _); (case hsz => (first | omega | (simp; done) | (simp; omega) | (simp at *; omega)))) | (with_reducible refine Below.drew ?_) | (with_reducible refine below_drewN ?_ _) | ((with_reducible refine Below.trans ?_ (Below.mono (by with_reducible assumption) ?hsz)); (case hsz => (first | omega | (simp; done) | (simp; omega) | (simp at *; omega))))))⟩
            case measure => simp [intOf]; omega
          · rw [if_neg hcl] at Hsn
            go_upto_region 9 with fail
            go_region
            have hR3 := (hR2.set a (la)).drew
            rw [← Hsn.out] at hR3
            have HR3 := Lib.hid hR3
            clear hR3 hR2
            go_wp2
            go_roundw
            case rel => exact ⟨k + 1, by omega, by go_num, HR3.out, (bx2.far (by simp; omega) _), by (repeat (first | (with_reducible assumption) | (with_reducible exact Below.refl _ _) | ((with_reducible refine Below.alloc ?_ ?hsz _); (case hsz => (first | omega | (simp; done) | (simp; omega) | (simp at *; omega)))) | ((with_reducible refine Below.setCell ?_ ?hsz _); (case hsz => (first | omega | (simp; done) | (simp; omega) | (simp at *; omega)))) | (with_reducible refine Below.drew ?_) | (with_reducible refine below_drewN ?_ _) | ((with_reducible refine Below.trans ?_ (Below.mono (by with_reducible assumption) ?hsz)); (case hsz => (first | omega | (simp; done) | (simp; omega) | (simp at *; omega))))))⟩
            case measure => simp [intOf]; omega
        · go_wp2
          have hk2 : k = (stL ps xs).length := by omega
          subst hk2
          rw [← hEl, List.take_length] at hR
          go_roundw
          case rel => exact ⟨r + 1, by have := Hlt.out; omega, by have := Hlt.out; go_num, hR, bx, hb⟩
          case measure => have := Hlt.out; simp [intOf]; omega
    · obtain ⟨bs, d0, d1, -, -⟩ := id bx
      go_wp2
      go_ret
      have hr2 : r = N - 1 := by omega
      subst hr2
      rw [leftR_dst HE.out (by omega)] at hR
      exact ⟨_, rfl, hR.ints.mono (by omega), hb⟩

end Go.Proofs.YtmgpekdhcghabaaGreat
