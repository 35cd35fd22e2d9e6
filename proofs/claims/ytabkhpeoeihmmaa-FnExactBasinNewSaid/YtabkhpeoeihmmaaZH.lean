/- Contracts of the functions of chapter 12 in the model: BasinNew. -/
import Derived.Test.YtabkhpeoeihmmaaKE
import Derived.Test.YtabkhpeoeihmmaaCF
import Derived.Test.YtabkhpeoeihmmaaF1
import Derived.Test.YtabkhpeoeihmmaaF2
import Derived.Test.YtabkhpeoeihmmaaRW
import Derived.Deep.AppendLies
namespace Go.Proofs.Ytabkhpeoeihmmaa
open Go.RowKit

theorem newX_take {ps : List Pp} {a : Int} {k : Nat} (hk : k < ps.length) : (newX ps a).take (k + 1) = (newX ps a).take k ++ [newT a ps[k]] := by
  rw [List.take_succ_eq_append_getElem (by rw [newX_len]; exact hk)]
  simp [newX]
theorem ret_vbM {v : Value} {b b' : Bool} (h : b = b') : Ending.returned (.tuple #[v, .bool b]) = .returned (.tuple #[v, .bool b']) := by rw [h]

set_option maxHeartbeats 4000000 in
set_option maxRecDepth 20000 in
theorem specBasinNew_any (n i j : Int) (v : Value) (ps : List Pp) (b : Nat) (w : World) (hp : Pipes w b v ps) :
    Calls Try.prog 23 #[.agg #[.int .i64 n, v], .int .i64 i, .int .i64 j] w fun e w' => ∃ r1 r2, e = .returned (.tuple #[.agg #[r1, r2], .bool (greatB n ps i j)]) ∧ Ints w' w.heap.size r1 (bnewX n ps i j) ∧ Ints w' w.heap.size r2 (bnewH n ps i j) ∧ (∀ x y, r1.ownBlock = some x → r2.ownBlock = some y → x ≠ y) ∧ Below w.heap.size w w' := by
  have hp0 := hp
  obtain ⟨A, c, rfl, hc1, hc2, hsm, hcell⟩ := hp.form
  unfold maxLen at hc2
  obtain ⟨w0, hw0⟩ : ∃ W, W = (w.alloc (.cells #[.int .i64 n, .slice A ps.length c] 33)).alloc (.cells #[.slice none 0 0, .slice none 0 0] 35) := ⟨_, rfl⟩
  have hB0 : Below w.heap.size w w0 := by rw [hw0]; (repeat (first | (with_reducible assumption) | (with_reducible exact Below.refl _ _) | ((with_reducible refine Below.alloc ?_ ?hsz _); (case hsz => (first | omega | (simp; done) | (simp; omega) | (simp at *; omega)))) | ((with_reducible refine Below.setCell ?_ ?hsz _); (case hsz => (first | omega | (simp; done) | (simp; omega) | (simp at *; omega)))) | (with_reducible refine Below.drew ?_) | (with_reducible refine below_drewN ?_ _) | ((with_reducible refine Below.trans ?_ (Below.mono (by with_reducible assumption) ?hsz)); (case hsz => (first | omega | (simp; done) | (simp; omega) | (simp at *; omega))))))
  have hz0 : w.heap.size + 2 ≤ w0.heap.size := by rw [hw0]; simp
  have s0 : w.heap.size < w0.heap.size := by omega
  have d0 : w0.cell? ⟨w.heap.size, 0, none⟩ = some (.int .i64 n) := by rw [hw0]; go_simp
  have d1 : w0.cell? ⟨w.heap.size, 1, none⟩ = some (.slice A ps.length c) := by rw [hw0]; go_simp
  have hh0 : w0.heap[w.heap.size + 1]? = some (.cells #[.slice none 0 0, .slice none 0 0] 35 (0, 0)) := by
    rw [hw0]
    have := heap_alloc_new (w.alloc (.cells #[.int .i64 n, .slice A ps.length c] 33)) (.cells #[.slice none 0 0, .slice none 0 0] 35 (0, 0))
    rw [World.size_alloc] at this
    exact this
  go_enter Try.func23, Try.ntmps23
  go_wp2_with fail
  rw [← hw0]
  clear hw0
  refine (specFreeOk_any n _ ps b _ (hp0.keep hB0)).mono ?_
  rintro e w1 ⟨rfl, hb1⟩
  have hB1 := hB0.trans (hb1.mono (by omega))
  have hz1 := hb1.size
  have e0 := (bel_cell hb1 s0).trans d0
  have e1 := (bel_cell hb1 s0).trans d1
  have hh1 := heap_keep hh0 hb1
  have p0 : w.heap.size < w1.heap.size := by omega
  have p1 : w.heap.size + 1 < w1.heap.size := by omega
  clear d0 d1 hh0 s0 hb1
  by_cases hf : freeB n ps = true
  · rw [hf]
    go_wp2_with fail
    refine (ends_any n i j _ ps b _ (hp0.keep hB1)).mono ?_
    rintro e w2 ⟨rfl, hb2⟩
    have hB2 := hB1.trans (hb2.mono (by omega))
    have hz2 := hb2.size
    have d0 := (bel_cell hb2 p0).trans e0
    have d1 := (bel_cell hb2 p0).trans e1
    have hh2 := heap_keep hh1 hb2
    have p2 : w.heap.size < w2.heap.size := by omega
    have p3 : w.heap.size + 1 < w2.heap.size := by omega
    clear e0 e1 hh1 hb2 p0 p1
    by_cases he : endsB n ps i j = true
    · rw [he]
      have hg : greatB n ps i j = true := by rw [greatB, hf, he]; rfl
      obtain ⟨hn, n2, n5, i0', i1', -⟩ := net_of_great hg
      have hl7 := (netOk_parts hn).2.2.1
      have HG := Lib.hid hg
      obtain ⟨N, rfl⟩ : ∃ N : Nat, n = (N : Int) := ⟨n.toNat, by omega⟩
      obtain ⟨I, rfl⟩ : ∃ I : Nat, i = (I : Int) := ⟨i.toNat, by omega⟩
      have hmk2 := fun W => run_make_ints (n := N) (by omega) W
      obtain ⟨i0, hi0, hz0', hz1', hz2'⟩ := info_parts int_info
      have hmade := Ints_made w2 (n := N) (b := w2.heap.size) (g := w2.heap.size) (Nat.le_refl _) (by omega) rfl
      obtain ⟨gq, cq, hv, hRq⟩ := hmade.row (by rw [List.length_replicate]; omega)
      rw [List.length_replicate] at hv hRq
      injection hv with x1 x2 x3
      injection x1 with x1
      injection x1 with x1
      subst x1
      subst x3
      clear hg hf he hn hmade
      obtain ⟨w3, hw3⟩ : ∃ W, W = w2.alloc (.cells (madeCells #[.int .i64 0] N) 3) := ⟨_, rfl⟩
      have hb3 : Below w2.heap.size w2 w3 := by rw [hw3]; (repeat (first | (with_reducible assumption) | (with_reducible exact Below.refl _ _) | ((with_reducible refine Below.alloc ?_ ?hsz _); (case hsz => (first | omega | (simp; done) | (simp; omega) | (simp at *; omega)))) | ((with_reducible refine Below.setCell ?_ ?hsz _); (case hsz => (first | omega | (simp; done) | (simp; omega) | (simp at *; omega)))) | (with_reducible refine Below.drew ?_) | (with_reducible refine below_drewN ?_ _) | ((with_reducible refine Below.trans ?_ (Below.mono (by with_reducible assumption) ?hsz)); (case hsz => (first | omega | (simp; done) | (simp; omega) | (simp at *; omega))))))
      have hz3 : w3.heap.size = w2.heap.size + 1 := by rw [hw3]; simp
      obtain ⟨w4, hw4⟩ : ∃ W, W = w3.alloc (.cells #[.slice none 0 0, .slice (some ⟨w2.heap.size, 0, none⟩) N N] 35) := ⟨_, rfl⟩
      have hh4 : w4.heap[w2.heap.size + 1]? = some (.cells #[.slice none 0 0, .slice (some ⟨w2.heap.size, 0, none⟩) N N] 35 (0, 0)) := by
        rw [hw4]
        have h9 := heap_alloc_new w3 (.cells #[.slice none 0 0, .slice (some ⟨w2.heap.size, 0, none⟩) N N] 35 (0, 0))
        rw [hz3] at h9
        exact h9
      have hb4 : Below w2.heap.size w2 w4 := by
        rw [hw4]
        exact hb3.alloc (by omega) _
      have hz4 : w4.heap.size = w2.heap.size + 2 := by rw [hw4]; simp [hz3]
      have hR4 : Row w4 w2.heap.size w2.heap.size N N (List.replicate N 0) := by
        rw [hw4]
        rw [← hw3] at hRq
        exact hRq.keep ((Below.refl _ _).alloc (Nat.le_refl _) _)
      clear hRq hb3
      rw [hw3] at hw4
      go_wp2
      rw [← hw4]
      clear hw4 hw3 hz3
      go_loopw [9] (fun t wr => ∃ (k : Nat) (A1 : Option Addr) (k1 : Nat), k ≤ ps.length ∧ t = .int .i64 k ∧ wr.ownsRow (w2.heap.size + 2) 3 1 (.slice A1 k k1) k (((newX ps I).take k).map (Value.int .i64)) ∧ Row wr w2.heap.size w2.heap.size N N (List.replicate N 0) ∧
          wr.heap[w2.heap.size + 1]? = some (.cells #[.slice A1 k k1, .slice (some ⟨w2.heap.size, 0, none⟩) N N] 35 (0, 0)) ∧ Below w2.heap.size w2 wr) (fun t _ => ps.length - (intOf t).toNat)
      case atStart => exact ⟨0, none, 0, by omega, rfl, World.ownsRow_nil _ _ _ 1, hR4, hh4, hb4⟩
      case round =>
        obtain ⟨k, A1, k1, hk, rfl, hown, hR, hh, hb⟩ := hrel
        have hbz := hb.size
        have hqs := heap_lt hh
        have m0 := heap_cell (j := 0) hh rfl
        have m1 := heap_cell (j := 1) hh rfl
        have k0 := (bel_cell hb p2).trans d0
        have kk1 := (bel_cell hb p2).trans d1
        have hBwr := hB2.trans (hb.mono (by omega))
        have hneq : some (w2.heap.size + 1) ≠ (Value.slice A1 k k1).ownBlock := fun e => by
          have := (hown.lt _ e.symm).1
          omega
        have hneh : (Value.slice (some ⟨w2.heap.size, 0, none⟩) N N).ownBlock ≠ (Value.slice A1 k k1).ownBlock := fun e => by
          have h9 : w2.heap.size + 2 ≤ w2.heap.size := (hown.lt _ (e.symm.trans rfl)).1
          omega
        by_cases hlt : k < ps.length
        · obtain ⟨g, rfl, hg1, hg2, y0, y1, y2, y3, y4⟩ := hcell wr hBwr k hlt
          have hgr : g < wr.heap.size := by omega
          by_cases hfr : ps[k].fr = (I : Int)
          · have hbq : (ps[k].fr == (I : Int)) = true := by simp [hfr]
            have HN := Lib.hid (newX_take (a := (I : Int)) hlt)
            have HV := Lib.hid (show newT (I : Int) ps[k] = ps[k].mo by simp [newT, hfr])
            clear hfr
            go_wp2_with (first
              | (at_builtin
                 go_must (refine wpList_append_lies _ rfl _ _ 25 rfl (w2.heap.size + 2) 3 i0 _ 1 8 Try.underlying25 hi0 hz0' hz1' hz2' rfl (by omega) _ k _ rfl (hown.alloc _) ⟨wr.heap.size, 0, none⟩ 1 1 [.int .i64 ps[k].mo] rfl rfl (World.news_of_block (cs := #[.int .i64 ps[k].mo]) (t := 3) (fr := (0, 0)) (heap_alloc_new _ _)) (by simp [Value.oneCell']) (by omega) (by unfold maxLen; omega) (by omega) (by simp; omega) _ rfl ?_)
                 intro g2 k2 w7 hown7 hgr7 hat7 hlt7
                 have hh7 := heap_grown (heap_keep hh ((Below.refl wr.heap.size wr).alloc (Nat.le_refl _) (.cells #[.int .i64 ps[k].mo] 3))) hgr7 hneq
                 have x0 := heap_cell (j := 0) hh7 rfl
                 have xf := heap_frozen (j := 0) hh7))
            have hR7 : Row w7 w2.heap.size w2.heap.size N N (List.replicate N 0) := ⟨(hR.keep ((Below.refl wr.heap.size wr).alloc (Nat.le_refl _) (.cells #[.int .i64 ps[k].mo] 3))).1.kept hgr7 (.inr (fun e => hneh e)), hR.2⟩
            have hown8 : w7.ownsRow (w2.heap.size + 2) 3 1 (.slice (some ⟨g2, 0, none⟩) (k + 1) k2) (k + 1) (((newX ps I).take (k + 1)).map (Value.int .i64)) := by
              rw [HN.out, HV.out, List.map_append]
              simpa using hown7
            have hb7 : Below w2.heap.size w2 (w7.setCell ⟨w2.heap.size + 1, 0, none⟩ (.slice (some ⟨g2, 0, none⟩) (k + 1) k2)) := by
              refine Below.setCell ?_ (by show w2.heap.size ≤ w2.heap.size + 1; omega) _
              refine Below.grown (w := wr.alloc (.cells #[.int .i64 ps[k].mo] 3)) (by (repeat (first | (with_reducible assumption) | (with_reducible exact Below.refl _ _) | ((with_reducible refine Below.alloc ?_ ?hsz _); (case hsz => (first | omega | (simp; done) | (simp; omega) | (simp at *; omega)))) | ((with_reducible refine Below.setCell ?_ ?hsz _); (case hsz => (first | omega | (simp; done) | (simp; omega) | (simp at *; omega)))) | (with_reducible refine Below.drew ?_) | (with_reducible refine below_drewN ?_ _) | ((with_reducible refine Below.trans ?_ (Below.mono (by with_reducible assumption) ?hsz)); (case hsz => (first | omega | (simp; done) | (simp; omega) | (simp at *; omega))))))) hgr7 (by (first | omega | (simp; done) | (simp; omega) | (simp at *; omega))) (fun q hq => ?_)
              have := (hown.lt q hq).1
              omega
            go_roundw
            case rel => exact ⟨k + 1, some ⟨g2, 0, none⟩, k2, by omega, by go_num, ownsRow_setCell_below hown8 (by show w2.heap.size + 1 < w2.heap.size + 2; omega) _, hR7.far (a := ⟨w2.heap.size + 1, 0, none⟩) (by show w2.heap.size + 1 ≠ w2.heap.size; omega) _, heap_set (j := 0) (.slice (some ⟨g2, 0, none⟩) (k + 1) k2) hh7, hb7⟩
            case measure => simp [intOf]; omega
          · have hbq : (ps[k].fr == (I : Int)) = false := by simp [hfr]
            have HN := Lib.hid (newX_take (a := (I : Int)) hlt)
            have HV := Lib.hid (show newT (I : Int) ps[k] = 0 by simp [newT, hfr])
            clear hfr
            go_wp2_with (first
              | (at_builtin
                 go_must (refine wpList_append_lies _ rfl _ _ 25 rfl (w2.heap.size + 2) 3 i0 _ 1 8 Try.underlying25 hi0 hz0' hz1' hz2' rfl (by omega) _ k _ rfl (hown.alloc _) ⟨wr.heap.size, 0, none⟩ 1 1 [.int .i64 0] rfl rfl (World.news_of_block (cs := #[.int .i64 0]) (t := 3) (fr := (0, 0)) (heap_alloc_new _ _)) (by simp [Value.oneCell']) (by omega) (by unfold maxLen; omega) (by omega) (by simp; omega) _ rfl ?_)
                 intro g2 k2 w7 hown7 hgr7 hat7 hlt7
                 have hh7 := heap_grown (heap_keep hh ((Below.refl wr.heap.size wr).alloc (Nat.le_refl _) (.cells #[.int .i64 0] 3))) hgr7 hneq
                 have x0 := heap_cell (j := 0) hh7 rfl
                 have xf := heap_frozen (j := 0) hh7))
            have hR7 : Row w7 w2.heap.size w2.heap.size N N (List.replicate N 0) := ⟨(hR.keep ((Below.refl wr.heap.size wr).alloc (Nat.le_refl _) (.cells #[.int .i64 0] 3))).1.kept hgr7 (.inr (fun e => hneh e)), hR.2⟩
            have hown8 : w7.ownsRow (w2.heap.size + 2) 3 1 (.slice (some ⟨g2, 0, none⟩) (k + 1) k2) (k + 1) (((newX ps I).take (k + 1)).map (Value.int .i64)) := by
              rw [HN.out, HV.out, List.map_append]
              simpa using hown7
            have hb7 : Below w2.heap.size w2 (w7.setCell ⟨w2.heap.size + 1, 0, none⟩ (.slice (some ⟨g2, 0, none⟩) (k + 1) k2)) := by
              refine Below.setCell ?_ (by show w2.heap.size ≤ w2.heap.size + 1; omega) _
              refine Below.grown (w := wr.alloc (.cells #[.int .i64 0] 3)) (by (repeat (first | (with_reducible assumption) | (with_reducible exact Below.refl _ _) | ((with_reducible refine Below.alloc ?_ ?hsz _); (case hsz => (first | omega | (simp; done) | (simp; omega) | (simp at *; omega)))) | ((with_reducible refine Below.setCell ?_ ?hsz _); (case hsz => (first | omega | (simp; done) | (simp; omega) | (simp at *; omega)))) | (with_reducible refine Below.drew ?_) | (with_reducible refine below_drewN ?_ _) | ((with_reducible refine Below.trans ?_ (Below.mono (by with_reducible assumption) ?hsz)); (case hsz => (first | omega | (simp; done) | (simp; omega) | (simp at *; omega))))))) hgr7 (by (first | omega | (simp; done) | (simp; omega) | (simp at *; omega))) (fun q hq => ?_)
              have := (hown.lt q hq).1
              omega
            go_roundw
            case rel => exact ⟨k + 1, some ⟨g2, 0, none⟩, k2, by omega, by go_num, ownsRow_setCell_below hown8 (by show w2.heap.size + 1 < w2.heap.size + 2; omega) _, hR7.far (a := ⟨w2.heap.size + 1, 0, none⟩) (by show w2.heap.size + 1 ≠ w2.heap.size; omega) _, heap_set (j := 0) (.slice (some ⟨g2, 0, none⟩) (k + 1) k2) hh7, hb7⟩
            case measure => simp [intOf]; omega
        · have hk2 : k = ps.length := by omega
          subst hk2
          rw [List.take_of_length_le (by rw [newX_len]; exact Nat.le_refl _)] at hown
          have hI : Ints wr (w2.heap.size + 2) (.slice A1 ps.length k1) (newX ps I) := ⟨by rw [newX_len]; exact hown, by rw [newX_len]; exact hsm⟩
          obtain ⟨z0, zf⟩ := hR.at' I (by omega)
          obtain ⟨gha, ghb⟩ := hR.lt
          obtain ⟨hcc1, hcc2⟩ := hR.capd
          unfold maxLen at hcc2
          have hhr := (hb.block (w.heap.size + 1) p3).trans hh2
          have v0 := heap_cell (j := 0) hhr rfl
          have v1 := heap_cell (j := 1) hhr rfl
          have f0 := heap_frozen (j := 0) hhr
          have f1 := heap_frozen (j := 1) hhr
          have hIN : I < N := by omega
          have hap : ∀ x y, (Value.slice A1 ps.length k1).ownBlock = some x → (Value.slice (some ⟨w2.heap.size, 0, none⟩) N N).ownBlock = some y → x ≠ y := fun x y hx hy => by
            have h1 := (hown.lt x hx).1
            have h2 : w2.heap.size = y := by injection hy
            omega
          obtain ⟨W1, hW1⟩ : ∃ W, W = ((wr.setCell ⟨w2.heap.size, I, none⟩ (.int .i64 (N : Int))).setCell ⟨w.heap.size + 1, 0, none⟩ (.slice A1 ps.length k1)).setCell ⟨w.heap.size + 1, 1, none⟩ (.slice (some ⟨w2.heap.size, 0, none⟩) N N) := ⟨_, rfl⟩
          have r0 : W1.cell? ⟨w.heap.size + 1, 0, none⟩ = some (.slice A1 ps.length k1) := by
            rw [hW1]
            exact (World.cell?_setCell_other _ _ _ _ (by intro h; injection h with h1 h2; cases h2)).trans (World.cell?_setCell_same _ _ _ ((World.cell?_setCell_other _ _ _ _ (by intro h; injection h with h1 h2; omega)).trans v0))
          have r1 : W1.cell? ⟨w.heap.size + 1, 1, none⟩ = some (.slice (some ⟨w2.heap.size, 0, none⟩) N N) := by
            rw [hW1]
            exact World.cell?_setCell_same _ _ _ ((World.cell?_setCell_other _ _ _ _ (by intro h; injection h with h1 h2; cases h2)).trans ((World.cell?_setCell_other _ _ _ _ (by intro h; injection h with h1 h2; omega)).trans v1))
          have HF : Hid (Ints W1 w.heap.size (.slice A1 ps.length k1) (bnewX N ps I j) ∧ Ints W1 w.heap.size (.slice (some ⟨w2.heap.size, 0, none⟩) N N) (bnewH N ps I j) ∧ Below w.heap.size w W1) := Lib.hid (by
            obtain ⟨eX, eH⟩ := bnew_yes HG.out
            have eH2 : newH (N : Int) (I : Int) = (List.replicate N 0).set I (N : Int) := by simp [newH]
            rw [eX, eH, eH2, hW1]
            refine ⟨?_, ?_, ?_⟩
            · exact (((hI.setLow (a := ⟨w2.heap.size, I, none⟩) (by show w2.heap.size < w2.heap.size + 2; omega)).setLow (a := ⟨w.heap.size + 1, 0, none⟩) (by show w.heap.size + 1 < w2.heap.size + 2; omega)).setLow (a := ⟨w.heap.size + 1, 1, none⟩) (by show w.heap.size + 1 < w2.heap.size + 2; omega)).mono (by omega)
            · have h9 := (hR.set I (N : Int)).ints
              exact ((h9.setLow (a := ⟨w.heap.size + 1, 0, none⟩) (by show w.heap.size + 1 < w2.heap.size; omega)).setLow (a := ⟨w.heap.size + 1, 1, none⟩) (by show w.heap.size + 1 < w2.heap.size; omega)).mono (by omega)
            · exact ((hBwr.setCell (p := ⟨w2.heap.size, I, none⟩) (by show w.heap.size ≤ w2.heap.size; omega) _).setCell (p := ⟨w.heap.size + 1, 0, none⟩) (by show w.heap.size ≤ w.heap.size + 1; omega) _).setCell (p := ⟨w.heap.size + 1, 1, none⟩) (by show w.heap.size ≤ w.heap.size + 1; omega) _)
          generalize (List.replicate N (0 : Int)).getD I 0 = old at *
          clear hR hh hI hown hhr hh2
          go_wp2
          rw [← hW1]
          refine bodyPost_ret (v := .tuple #[.agg #[.slice A1 ps.length k1, .slice (some ⟨w2.heap.size, 0, none⟩) N N], .bool true]) (by simp [results, Try.results23, go_sem, r0, r1]) rfl ⟨_, _, ret_vbM HG.out.symm, HF.out.1, HF.out.2.1, hap, HF.out.2.2⟩
    · have hg' : greatB n ps i j = false := by simp [greatB, he]
      have he' : endsB n ps i j = false := by simpa using he
      rw [he']
      clear he he'
      have HE := Lib.hid (bnew_no hg')
      have HG' := Lib.hid hg'
      have v0 := heap_cell (j := 0) hh2 rfl
      have v1 := heap_cell (j := 1) hh2 rfl
      have f0 := heap_frozen (j := 0) hh2
      have f1 := heap_frozen (j := 1) hh2
      clear hg'
      obtain ⟨W1, hW1⟩ : ∃ W, W = (w2.setCell ⟨w.heap.size + 1, 0, none⟩ (.slice none 0 0)).setCell ⟨w.heap.size + 1, 1, none⟩ (.slice none 0 0) := ⟨_, rfl⟩
      have r0 : W1.cell? ⟨w.heap.size + 1, 0, none⟩ = some (.slice none 0 0) := by
        rw [hW1]
        exact (World.cell?_setCell_other _ _ _ _ (by intro h; injection h with h1 h2; cases h2)).trans (World.cell?_setCell_same _ _ _ v0)
      have r1 : W1.cell? ⟨w.heap.size + 1, 1, none⟩ = some (.slice none 0 0) := by
        rw [hW1]
        exact World.cell?_setCell_same _ _ _ ((World.cell?_setCell_other _ _ _ _ (by intro h; injection h with h1 h2; cases h2)).trans v1)
      have hBW : Below w.heap.size w W1 := by
        rw [hW1]
        exact (hB2.setCell (p := ⟨w.heap.size + 1, 0, none⟩) (by show w.heap.size ≤ w.heap.size + 1; omega) _).setCell (p := ⟨w.heap.size + 1, 1, none⟩) (by show w.heap.size ≤ w.heap.size + 1; omega) _
      go_wp2
      rw [← hW1]
      refine bodyPost_ret (v := .tuple #[.agg #[.slice none 0 0, .slice none 0 0], .bool false]) (by simp [results, Try.results23, go_sem, r0, r1]) rfl ⟨.slice none 0 0, .slice none 0 0, ret_vbM HG'.out.symm, ?_, ?_, fun x _ hx => (by cases (show (none : Option Nat) = some x from hx)), hBW⟩
      · rw [HE.out.1]; exact Ints_nil _ _
      · rw [HE.out.2]; exact Ints_nil _ _
  · have hg' : greatB n ps i j = false := by simp [greatB, hf]
    have hf' : freeB n ps = false := by simpa using hf
    rw [hf']
    clear hf hf'
    have HE := Lib.hid (bnew_no hg')
    have HG' := Lib.hid hg'
    have v0 := heap_cell (j := 0) hh1 rfl
    have v1 := heap_cell (j := 1) hh1 rfl
    have f0 := heap_frozen (j := 0) hh1
    have f1 := heap_frozen (j := 1) hh1
    clear hg'
    obtain ⟨W1, hW1⟩ : ∃ W, W = (w1.setCell ⟨w.heap.size + 1, 0, none⟩ (.slice none 0 0)).setCell ⟨w.heap.size + 1, 1, none⟩ (.slice none 0 0) := ⟨_, rfl⟩
    have r0 : W1.cell? ⟨w.heap.size + 1, 0, none⟩ = some (.slice none 0 0) := by
      rw [hW1]
      exact (World.cell?_setCell_other _ _ _ _ (by intro h; injection h with h1 h2; cases h2)).trans (World.cell?_setCell_same _ _ _ v0)
    have r1 : W1.cell? ⟨w.heap.size + 1, 1, none⟩ = some (.slice none 0 0) := by
      rw [hW1]
      exact World.cell?_setCell_same _ _ _ ((World.cell?_setCell_other _ _ _ _ (by intro h; injection h with h1 h2; cases h2)).trans v1)
    have hBW : Below w.heap.size w W1 := by
      rw [hW1]
      exact (hB1.setCell (p := ⟨w.heap.size + 1, 0, none⟩) (by show w.heap.size ≤ w.heap.size + 1; omega) _).setCell (p := ⟨w.heap.size + 1, 1, none⟩) (by show w.heap.size ≤ w.heap.size + 1; omega) _
    go_wp2
    rw [← hW1]
    refine bodyPost_ret (v := .tuple #[.agg #[.slice none 0 0, .slice none 0 0], .bool false]) (by simp [results, Try.results23, go_sem, r0, r1]) rfl ⟨.slice none 0 0, .slice none 0 0, ret_vbM HG'.out.symm, ?_, ?_, fun x _ hx => (by cases (show (none : Option Nat) = some x from hx)), hBW⟩
    · rw [HE.out.1]; exact Ints_nil _ _
    · rw [HE.out.2]; exact Ints_nil _ _

end Go.Proofs.Ytabkhpeoeihmmaa
