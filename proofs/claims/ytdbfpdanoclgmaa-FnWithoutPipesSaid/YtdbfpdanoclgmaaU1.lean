/- Contracts of the functions of chapter 7 in the program: pieces and trees. -/
import Derived.Test.YtdbfpdanoclgmaaJ2
import Derived.Test.YtdbfpdanoclgmaaW1
import Derived.Test.YtdbfpdanoclgmaaRW
import Derived.Test.YtdbfpdanoclgmaaRD
import Derived.Deep.QuietTactic
import Derived.Deep.AppendLies
namespace Go.Proofs.Ytdbfpdanoclgmaa
open Go.RowKit

theorem grown_set7 (w : World) (g j : Nat) (v : Value) : w.grownBy (w.setCell ⟨g, j, none⟩ v) (some g) :=
  ⟨rfl, rfl, rfl, by simp, fun k _ hk => Below.heap_setCell _ _ _ k (fun e => hk (by rw [e]))⟩

set_option maxHeartbeats 4000000 in
set_option maxRecDepth 20000 in
theorem grownTree_any (N : Nat) (v : Value) (ps : List Pp) (b : Nat) (w : World) (hp : Pipes w b v ps) (hn : netOkB (N : Int) ps = true) :
    Calls Try.prog 61 #[.agg #[.int .i64 (N : Int), v]] w fun e w' => ∃ r s, e = .returned (.tuple #[r, s]) ∧ Ints w' w.heap.size r (treeL N ps) ∧ Ints w' w.heap.size s (growL N ps ps.length) ∧ Below w.heap.size w w' := by
  have hp0 := hp
  obtain ⟨A, c, rfl, hc1, hc2, hs, hcell⟩ := hp.form
  unfold maxLen at hc2
  obtain ⟨n2, n5, hl7, -⟩ := netOk_parts hn
  have hN2 : 2 ≤ N := by omega
  have hN5 : N ≤ 5 := by omega
  have HE := Lib.hid (show ∀ p ∈ ps, endsIn (N : Int) p from net_endsIn hn)
  clear hn n2 n5 hp
  have bx0 := Box2.new w (.int .i64 (N : Int)) (.slice A ps.length c) 28
  go_enter Try.func61, Try.ntmps61
  go_wp2
  obtain ⟨i0, hi0, hz0, hz1, hz2⟩ := info_parts int_info
  go_loopw [13, 3] (fun i t wr => ∃ (k c1 : Nat) (A1 : Option Addr), k ≤ N ∧ i = .int .i64 (k : Int) ∧ t = .slice A1 k c1 ∧ wr.ownsRow (w.heap.size + 1) 3 1 (.slice A1 k c1) k ((ident k).map (Value.int .i64)) ∧
      Box2 wr w.heap.size (.int .i64 (N : Int)) (.slice A ps.length c) ∧ Below w.heap.size w wr) (fun i _ _ => N - (intOf i).toNat)
  case atStart => exact ⟨0, 0, none, by omega, rfl, rfl, World.ownsRow_nil _ _ _ 1, bx0, by (repeat (first | (with_reducible assumption) | (with_reducible exact Below.refl _ _) | ((with_reducible refine Below.alloc ?_ ?hsz _); (case hsz => (first | omega | (simp; done) | (simp; omega) | (simp at *; omega)))) | ((with_reducible refine Below.setCell ?_ ?hsz _); (case hsz => (first | omega | (simp; done) | (simp; omega) | (simp at *; omega)))) | (with_reducible refine Below.drew ?_) | (with_reducible refine below_drewN ?_ _) | ((with_reducible refine Below.trans ?_ (Below.mono (by with_reducible assumption) ?hsz)); (case hsz => (first | omega | (simp; done) | (simp; omega) | (simp at *; omega))))))⟩
  case round =>
    obtain ⟨k, c1, A1, hk, rfl, rfl, hown, bx, hb⟩ := hrel
    clear bx0
    have hzb := hb.size
    obtain ⟨bs, d0, d1, -, -⟩ := id bx
    have hrow : ∀ q, (Value.slice A1 k c1).ownBlock = some q → w.heap.size + 1 ≤ q := fun q hq => (hown.lt q hq).1
    by_cases hlt : k < N
    · go_wp2_with (first
        | (at_builtin
           go_must (refine wpList_append_lies _ rfl _ _ 34 rfl (w.heap.size + 1) 3 i0 _ 1 8 Try.underlying34 hi0 hz0 hz1 hz2 rfl (by omega) _ k _ rfl (hown.alloc _) ⟨wr.heap.size, 0, none⟩ 1 1 [.int .i64 (k : Int)] rfl rfl (World.news_of_block (cs := #[.int .i64 (k : Int)]) (t := 3) (fr := (0, 0)) (heap_alloc_new _ _)) (by simp [Value.oneCell']) (by omega) (by unfold maxLen; omega) (by omega) (by simp; omega) _ rfl ?_)
           intro g2 k2 w7 hown7 hgr7 hat7 hlt7))
      have bx7 := (bx.keep ((Below.refl _ _).alloc (Nat.le_refl _) _)).grown hgr7 (by intro h; have := hrow _ h.symm; omega)
      have hb7 : Below w.heap.size w w7 := Below.grown (w := wr.alloc (.cells #[.int .i64 (k : Int)] 3)) (by (repeat (first | (with_reducible assumption) | (with_reducible exact Below.refl _ _) | ((with_reducible refine Below.alloc ?_ ?hsz _); (case hsz => (first | omega | (simp; done) | (simp; omega) | (simp at *; omega)))) | ((with_reducible refine Below.setCell ?_ ?hsz _); (case hsz => (first | omega | (simp; done) | (simp; omega) | (simp at *; omega)))) | (with_reducible refine Below.drew ?_) | (with_reducible refine below_drewN ?_ _) | ((with_reducible refine Below.trans ?_ (Below.mono (by with_reducible assumption) ?hsz)); (case hsz => (first | omega | (simp; done) | (simp; omega) | (simp at *; omega))))))) hgr7 (by (first | omega | (simp; done) | (simp; omega) | (simp at *; omega))) (fun q hq => by have := hrow q hq; omega)
      have hown8 : w7.ownsRow (w.heap.size + 1) 3 1 (.slice (some ⟨g2, 0, none⟩) (k + 1) k2) (k + 1) ((ident (k + 1)).map (Value.int .i64)) := by
        rw [ident_succ, List.map_append]
        simpa using hown7
      clear hown7 hgr7 hat7 hlt7 bx hown hrow
      go_roundw
      case rel => exact ⟨k + 1, k2, some ⟨g2, 0, none⟩, by omega, by go_num, rfl, hown8, bx7, hb7⟩
      case measure => simp [intOf]; omega
    · have hkN : N = k := by omega
      subst hkN
      obtain ⟨gl, cl, hv, hR⟩ := (show Ints wr (w.heap.size + 1) (.slice A1 N c1) (ident N) from ⟨by rw [ident_len]; exact hown, by rw [ident_len]; unfold small; omega⟩).row (by rw [ident_len]; omega)
      rw [ident_len] at hv hR
      injection hv with e1 e2 e3
      subst e1
      subst e3
      have HR0 := Lib.hid (show Row wr (w.heap.size + 1) gl N c1 (growL N ps 0) from hR)
      have hgl : w.heap.size + 1 ≤ gl := hR.lt.1
      clear hown hrow hR e2
      go_wp2
      go_loopw [24, 2] (fun i t wq => ∃ (k j c2 : Nat) (A2 : Option Addr), k ≤ ps.length ∧ i = .int .i64 (k : Int) ∧ t = .slice A2 j c2 ∧ (numW k (treeF N ps)).length = j ∧
          wq.ownsRow (w.heap.size + 1) 3 1 (.slice A2 j c2) j ((numW k (treeF N ps)).map (Value.int .i64)) ∧ (Value.slice A2 j c2).ownBlock ≠ some gl ∧ Row wq (w.heap.size + 1) gl N c1 (growL N ps k) ∧
          Box2 wq w.heap.size (.int .i64 (N : Int)) (.slice A ps.length c) ∧ Below w.heap.size w wq) (fun i _ _ => ps.length - (intOf i).toNat)
      case atStart => exact ⟨0, 0, 0, none, by omega, rfl, rfl, rfl, World.ownsRow_nil _ _ _ 1, by simp [Value.ownBlock], HR0.out, bx, hb⟩
      case round =>
        clear bx hb hzb bs d0 d1 HR0 hlt
        obtain ⟨k, j, c2, A2, hk, rfl, rfl, hj, hown, hoff, hR, bx, hb⟩ := hrel
        have hjk : j ≤ k := by rw [← hj]; exact numW_len k _
        have hzb := hb.size
        obtain ⟨bs, d0, d1, -, -⟩ := id bx
        have HJ := Lib.hid hj
        clear hj
        by_cases hlt : k < ps.length
        · obtain ⟨g, rfl, hg1, hg2, q0, q1, q2, q3, q4⟩ := hcell wr hb k hlt
          obtain ⟨a0, a1, b0, b1, -⟩ := HE.out ps[k] (List.getElem_mem hlt)
          have hgz : ps.getD k zeroPp = ps[k] := by simp [List.getD_eq_getElem?_getD, hlt]
          obtain ⟨a, ha⟩ : ∃ a : Nat, ps[k].fr = (a : Int) := ⟨ps[k].fr.toNat, by omega⟩
          obtain ⟨e, he⟩ : ∃ e : Nat, ps[k].to = (e : Int) := ⟨ps[k].to.toNat, by omega⟩
          rw [ha] at a0 a1 q0
          rw [he] at b0 b1 q1
          obtain ⟨y0, -⟩ := hR.at' a (by omega)
          obtain ⟨y1, -⟩ := hR.at' e (by omega)
          have hglr := hR.lt.2
          have hcp := hR.capd
          unfold maxLen at hcp
          have HF : Hid (treeF N ps k = !decide ((growL N ps k).getD a 0 = (growL N ps k).getD e 0)) := Lib.hid (by
            unfold treeF lab
            rw [hgz, ha, he, Int.toNat_natCast, Int.toNat_natCast])
          have HG : Hid (treeF N ps k = true → growL N ps (k + 1) = relabK (growL N ps k) ((growL N ps k).getD e 0) ((growL N ps k).getD a 0) N) := Lib.hid fun h => by
            rw [growL_yes h, relabK_all _ _ _ (growL_len _ _ _)]
            unfold lab
            rw [hgz, ha, he, Int.toNat_natCast, Int.toNat_natCast]
          have HL := Lib.hid (growL_len N ps k)
          obtain ⟨la, hla⟩ : ∃ x, (growL N ps k).getD a 0 = x := ⟨_, rfl⟩
          obtain ⟨lb, hlb⟩ : ∃ x, (growL N ps k).getD e 0 = x := ⟨_, rfl⟩
          rw [hla] at y0 HF HG
          rw [hlb] at y1 HF HG
          obtain ⟨L0, hL0⟩ : ∃ L, growL N ps k = L := ⟨_, rfl⟩
          have HL0 := Lib.hid hL0
          rw [hL0] at hR HG HL
          have haN : (a : Int) < (N : Int) := a1
          have heN : (e : Int) < (N : Int) := b1
          clear hla hlb hgz ha he hL0
          by_cases hq : la = lb
          · have hq1 : (la == lb) = true := by simp [hq]
            have HT : Hid (treeF N ps k = false) := Lib.hid (by rw [HF.out, hq]; simp)
            clear hq
            go_wp2
            go_quiet (fail)
            go_wp2
            go_roundw
            case rel =>
              exact ⟨k + 1, j, c2, A2, by omega, by go_num, rfl, by rw [numW_no HT.out]; exact HJ.out, by rw [numW_no HT.out]; exact own_keep hown (Nat.le_refl _) (by (repeat (first | (with_reducible assumption) | (with_reducible exact Below.refl _ _) | ((with_reducible refine Below.alloc ?_ ?hsz _); (case hsz => (first | omega | (simp; done) | (simp; omega) | (simp at *; omega)))) | ((with_reducible refine Below.setCell ?_ ?hsz _); (case hsz => (first | omega | (simp; done) | (simp; omega) | (simp at *; omega)))) | (with_reducible refine Below.drew ?_) | (with_reducible refine below_drewN ?_ _) | ((with_reducible refine Below.trans ?_ (Below.mono (by with_reducible assumption) ?hsz)); (case hsz => (first | omega | (simp; done) | (simp; omega) | (simp at *; omega))))))), hoff, by rw [growL_no HT.out, HL0.out]; exact hR.keep (by (repeat (first | (with_reducible assumption) | (with_reducible exact Below.refl _ _) | ((with_reducible refine Below.alloc ?_ ?hsz _); (case hsz => (first | omega | (simp; done) | (simp; omega) | (simp at *; omega)))) | ((with_reducible refine Below.setCell ?_ ?hsz _); (case hsz => (first | omega | (simp; done) | (simp; omega) | (simp at *; omega)))) | (with_reducible refine Below.drew ?_) | (with_reducible refine below_drewN ?_ _) | ((with_reducible refine Below.trans ?_ (Below.mono (by with_reducible assumption) ?hsz)); (case hsz => (first | omega | (simp; done) | (simp; omega) | (simp at *; omega))))))), bx.keep (by (repeat (first | (with_reducible assumption) | (with_reducible exact Below.refl _ _) | ((with_reducible refine Below.alloc ?_ ?hsz _); (case hsz => (first | omega | (simp; done) | (simp; omega) | (simp at *; omega)))) | ((with_reducible refine Below.setCell ?_ ?hsz _); (case hsz => (first | omega | (simp; done) | (simp; omega) | (simp at *; omega)))) | (with_reducible refine Below.drew ?_) | (with_reducible refine below_drewN ?_ _) | ((with_reducible refine Below.trans ?_ (Below.mono (by with_reducible assumption) ?hsz)); (case hsz => (first | omega | (simp; done) | (simp; omega) | (simp at *; omega))))))), by (repeat (first | (with_reducible assumption) | (with_reducible exact Below.refl _ _) | ((with_reducible refine Below.alloc ?_ ?hsz _); (case hsz => (first | omega | (simp; done) | (simp; omega) | (simp at *; omega)))) | ((with_reducible refine Below.setCell ?_ ?hsz _); (case hsz => (first | omega | (simp; done) | (simp; omega) | (simp at *; omega)))) | (with_reducible refine Below.drew ?_) | (with_reducible refine below_drewN ?_ _) | ((with_reducible refine Below.trans ?_ (Below.mono (by with_reducible assumption) ?hsz)); (case hsz => (first | omega | (simp; done) | (simp; omega) | (simp at *; omega))))))⟩
            case measure => simp [intOf]; omega
          · have hq1 : (la == lb) = false := by simp [hq]
            have HT : Hid (treeF N ps k = true) := Lib.hid (by rw [HF.out]; simp [hq])
            clear hq
            go_wp2
            go_quiet (fail)
            have hBq : Below wr.heap.size wr ((wr.alloc (.cells #[.int .i64 (a : Int), .int .i64 (e : Int), .int .i64 ps[k].le, .int .i64 ps[k].mo, .int .i64 ps[k].co] 59)).drewN nq) := by (repeat (first | (with_reducible assumption) | (with_reducible exact Below.refl _ _) | ((with_reducible refine Below.alloc ?_ ?hsz _); (case hsz => (first | omega | (simp; done) | (simp; omega) | (simp at *; omega)))) | ((with_reducible refine Below.setCell ?_ ?hsz _); (case hsz => (first | omega | (simp; done) | (simp; omega) | (simp at *; omega)))) | (with_reducible refine Below.drew ?_) | (with_reducible refine below_drewN ?_ _) | ((with_reducible refine Below.trans ?_ (Below.mono (by with_reducible assumption) ?hsz)); (case hsz => (first | omega | (simp; done) | (simp; omega) | (simp at *; omega))))))
            have hown1 := own_keep hown (Nat.le_refl _) hBq
            have hR1 := hR.keep hBq
            have bx1 := bx.keep hBq
            have hb1 : Below w.heap.size w _ := hb.trans (hBq.mono hzb)
            generalize hwz : ((wr.alloc (.cells #[.int .i64 (a : Int), .int .i64 (e : Int), .int .i64 ps[k].le, .int .i64 ps[k].mo, .int .i64 ps[k].co] 59)).drewN nq) = wz at *
            clear hwz hBq hown hR bx hb hzb bs d0 d1 y0 y1 hglr
            have hzb := hb1.size
            obtain ⟨bs, d0, d1, -, -⟩ := id bx1
            have hrow : ∀ q, (Value.slice A2 j c2).ownBlock = some q → w.heap.size + 1 ≤ q := fun q hq => (hown1.lt q hq).1
            go_wp2_with (first
              | (at_builtin
                 go_must (refine wpList_append_lies _ rfl _ _ 34 rfl (w.heap.size + 1) 3 i0 _ 1 8 Try.underlying34 hi0 hz0 hz1 hz2 rfl (by omega) _ j _ rfl (hown1.alloc _) ⟨wz.heap.size, 0, none⟩ 1 1 [.int .i64 (k : Int)] rfl rfl (World.news_of_block (cs := #[.int .i64 (k : Int)]) (t := 3) (fr := (0, 0)) (heap_alloc_new _ _)) (by simp [Value.oneCell']) (by omega) (by unfold maxLen; omega) (by omega) (by simp; omega) _ rfl ?_)
                 intro g2 k2 w7 hown7 hgr7 hat7 hlt7))
            have bx7 := (bx1.keep ((Below.refl _ _).alloc (Nat.le_refl _) _)).grown hgr7 (by intro h; have := hrow _ h.symm; omega)
            have hb7 : Below w.heap.size w w7 := Below.grown (w := wz.alloc (.cells #[.int .i64 (k : Int)] 3)) (by (repeat (first | (with_reducible assumption) | (with_reducible exact Below.refl _ _) | ((with_reducible refine Below.alloc ?_ ?hsz _); (case hsz => (first | omega | (simp; done) | (simp; omega) | (simp at *; omega)))) | ((with_reducible refine Below.setCell ?_ ?hsz _); (case hsz => (first | omega | (simp; done) | (simp; omega) | (simp at *; omega)))) | (with_reducible refine Below.drew ?_) | (with_reducible refine below_drewN ?_ _) | ((with_reducible refine Below.trans ?_ (Below.mono (by with_reducible assumption) ?hsz)); (case hsz => (first | omega | (simp; done) | (simp; omega) | (simp at *; omega))))))) hgr7 (by (first | omega | (simp; done) | (simp; omega) | (simp at *; omega))) (fun q hq => by have := hrow q hq; omega)
            have hR7 := (hR1.keep ((Below.refl _ _).alloc (Nat.le_refl _) (.cells #[.int .i64 (k : Int)] 3))).grown hgr7 hoff
            have hgg : g2 ≠ gl := by
              intro h
              subst h
              rcases hat7 with h | h
              · exact hoff h
              · have := hR1.lt.2; simp at h; omega
            have hown8 : w7.ownsRow (w.heap.size + 1) 3 1 (.slice (some ⟨g2, 0, none⟩) (j + 1) k2) (j + 1) ((numW (k + 1) (treeF N ps)).map (Value.int .i64)) := by
              rw [numW_yes HT.out, List.map_append]
              simpa using hown7
            have hj8 : (numW (k + 1) (treeF N ps)).length = j + 1 := by rw [numW_yes HT.out, List.length_append, HJ.out]; rfl
            have HG1 := Lib.hid (HG.out HT.out)
            have HO8 := Lib.hid (And.intro hown8 hj8)
            have hoff8 : (Value.slice (some ⟨g2, 0, none⟩) (j + 1) k2).ownBlock ≠ some gl := by
              intro h
              injection h with h
              exact hgg h
            clear hown7 hgr7 hat7 hlt7 hown8 hj8 hown1 hR1 bx1 hb1 hzb bs d0 d1 hrow hoff
            have hzb := hb7.size
            obtain ⟨bs, d0, d1, -, -⟩ := id bx7
            go_wp2
            go_loopw [48] (fun i wx => ∃ q : Nat, q ≤ N ∧ i = .int .i64 (q : Int) ∧ wx.ownsRow (w.heap.size + 1) 3 1 (.slice (some ⟨g2, 0, none⟩) (j + 1) k2) (j + 1) ((numW (k + 1) (treeF N ps)).map (Value.int .i64)) ∧
                Row wx (w.heap.size + 1) gl N c1 (relabK L0 lb la q) ∧ Box2 wx w.heap.size (.int .i64 (N : Int)) (.slice (some ⟨g, 0, none⟩) ps.length c) ∧ Below w.heap.size w wx) (fun i _ => N - (intOf i).toNat)
            case atStart => exact ⟨0, by omega, rfl, HO8.out.1, hR7, bx7, hb7⟩
            case round =>
              clear bx7 hb7 hzb bs d0 d1 hR7
              obtain ⟨q, hq, rfl, hown, hR, bx, hb⟩ := hrel
              have hzb := hb.size
              obtain ⟨bs, d0, d1, -, -⟩ := id bx
              by_cases hqN : q < N
              · obtain ⟨y0, z0⟩ := hR.at' q hqN
                have hglr := hR.lt.2
                have Hr : Hid (relabK L0 lb la (q + 1) = if (relabK L0 lb la q).getD q 0 = lb then (relabK L0 lb la q).set q la else relabK L0 lb la q) := Lib.hid rfl
                obtain ⟨M, hM⟩ : ∃ M, relabK L0 lb la q = M := ⟨_, rfl⟩
                rw [hM] at Hr hR y0
                obtain ⟨x, hx⟩ : ∃ x, M.getD q 0 = x := ⟨_, rfl⟩
                rw [hx] at Hr y0
                clear hx hM
                by_cases hxl : x = lb
                · have hx1 : (x == lb) = true := by simp [hxl]
                  have Hr2 : Hid (relabK L0 lb la (q + 1) = M.set q la) := Lib.hid (by rw [Hr.out, if_pos hxl])
                  have HR2 := Lib.hid (hR.set q la)
                  have hgb : gl ≠ w.heap.size := by omega
                  have bx2 := bx.far (p := ⟨gl, q, none⟩) (by simpa using hgb) (.int .i64 la)
                  have hown2 : (wr.setCell ⟨gl, q, none⟩ (.int .i64 la)).ownsRow (w.heap.size + 1) 3 1 (.slice (some ⟨g2, 0, none⟩) (j + 1) k2) (j + 1) ((numW (k + 1) (treeF N ps)).map (Value.int .i64)) :=
                    hown.kept (grown_set7 wr gl q (.int .i64 la)) (.inr hoff8)
                  clear hxl Hr
                  go_wp2
                  go_roundw
                  case rel => exact ⟨q + 1, by omega, by go_num, hown2, by rw [Hr2.out]; exact HR2.out, bx2, by (repeat (first | (with_reducible assumption) | (with_reducible exact Below.refl _ _) | ((with_reducible refine Below.alloc ?_ ?hsz _); (case hsz => (first | omega | (simp; done) | (simp; omega) | (simp at *; omega)))) | ((with_reducible refine Below.setCell ?_ ?hsz _); (case hsz => (first | omega | (simp; done) | (simp; omega) | (simp at *; omega)))) | (with_reducible refine Below.drew ?_) | (with_reducible refine below_drewN ?_ _) | ((with_reducible refine Below.trans ?_ (Below.mono (by with_reducible assumption) ?hsz)); (case hsz => (first | omega | (simp; done) | (simp; omega) | (simp at *; omega))))))⟩
                  case measure => simp [intOf]; omega
                · have hx1 : (x == lb) = false := by simp [hxl]
                  have Hr2 : Hid (relabK L0 lb la (q + 1) = M) := Lib.hid (by rw [Hr.out, if_neg hxl])
                  clear hxl Hr
                  go_wp2
                  go_roundw
                  case rel => exact ⟨q + 1, by omega, by go_num, hown, by rw [Hr2.out]; exact hR, bx, hb⟩
                  case measure => simp [intOf]; omega
              · have hqN2 : q = N := by omega
                rw [hqN2, ← HG1.out] at hR
                go_wp2
                go_roundw
                case rel => exact ⟨k + 1, j + 1, k2, some ⟨g2, 0, none⟩, by omega, by go_num, rfl, HO8.out.2, hown, hoff8, hR, bx, hb⟩
                case measure => simp [intOf]; omega
        · have hk2 : k = ps.length := by omega
          subst hk2
          go_wp2
          go_ret2
          exact ⟨_, _, rfl, (show Ints _ _ _ _ from ⟨by unfold treeL; rw [HJ.out]; exact hown, by unfold treeL; rw [HJ.out]; unfold small; omega⟩).mono (by omega), hR.ints.mono (by omega), hb⟩

theorem pieceFn_any (k N : Nat) (bl : Nat) (u : Value) (L : List Int) (b : Nat) (w : World) (hx : Ints w b u L) (hl : L.length = N) (hk : k < N) (d0 : w.cell? ⟨bl, 0, none⟩ = some u) :
    Calls Try.prog 63 #[.int .i64 (k : Int), .pointer (some ⟨bl, 0, none⟩)] w fun e w' => e = .returned (.bool (rootF L k)) ∧ Below w.heap.size w w' := by
  obtain ⟨A, c, rfl, hc1, hc2, hsm, hcell⟩ := hx.form
  unfold maxLen at hc2
  obtain ⟨g, rfl, hg1, hg2, c0, -⟩ := hcell w (Below.refl _ _) k (by omega)
  have Hr : Hid (rootF L k = (L[k]'(by omega) == (k : Int))) := Lib.hid (by
    unfold rootF lab
    rw [Int.toNat_natCast, List.getD_eq_getElem?_getD, List.getElem?_eq_getElem (show k < L.length by omega)]
    exact (Bool.eq_iff_iff.2 (by simp)))
  rw [hl] at *
  go_enter Try.func63, Try.ntmps63
  go_wp2
  go_ret
  exact ⟨ret_bool Hr.out.symm, by (repeat (first | (with_reducible assumption) | (with_reducible exact Below.refl _ _) | ((with_reducible refine Below.alloc ?_ ?hsz _); (case hsz => (first | omega | (simp; done) | (simp; omega) | (simp at *; omega)))) | ((with_reducible refine Below.setCell ?_ ?hsz _); (case hsz => (first | omega | (simp; done) | (simp; omega) | (simp at *; omega)))) | (with_reducible refine Below.drew ?_) | (with_reducible refine below_drewN ?_ _) | ((with_reducible refine Below.trans ?_ (Below.mono (by with_reducible assumption) ?hsz)); (case hsz => (first | omega | (simp; done) | (simp; omega) | (simp at *; omega))))))⟩

set_option maxHeartbeats 1000000 in
set_option maxRecDepth 20000 in
theorem piecesWhere_any (N bl : Nat) (u : Value) (L : List Int) (b : Nat) (w : World) (hx : Ints w b u L) (hl : L.length = N) (hN : N ≤ 5) (hbl : bl < w.heap.size) (d0 : w.cell? ⟨bl, 0, none⟩ = some u) :
    Calls Try.prog 62 #[.int .i64 (N : Int), .func (Fn.func 63) #[] #[.pointer (some ⟨bl, 0, none⟩)]] w fun e w' => ∃ r, e = .returned r ∧ Ints w' w.heap.size r (numW N (rootF L)) ∧ Below w.heap.size w w' := by
  obtain ⟨cnt, hcn⟩ : ∃ cnt, cnt = N := ⟨_, rfl⟩
  rw [← hcn]
  have hcnt : cnt ≤ 1000 := by omega
  have HL := Lib.hid (hl.trans hcn.symm)
  clear hl hcn
  go_enter Try.func62, Try.ntmps62
  go_wp2
  obtain ⟨i0, hi0, hz0, hz1, hz2⟩ := info_parts int_info
  go_loopw [8, 5] (fun i t wr => ∃ (k j k1 : Nat) (A1 : Option Addr), k ≤ cnt ∧ i = .int .i64 k ∧ t = .slice A1 j k1 ∧ (numW k (rootF L)).length = j ∧
      wr.ownsRow w.heap.size 3 1 (.slice A1 j k1) j ((numW k (rootF L)).map (Value.int .i64)) ∧ Below w.heap.size w wr) (fun i _ _ => cnt - (intOf i).toNat)
  case atStart => exact ⟨0, 0, 0, none, by omega, rfl, rfl, rfl, World.ownsRow_nil _ _ _ 1, Below.refl _ _⟩
  case round =>
    obtain ⟨k, j, k1, A1, hk, rfl, rfl, hj, hown, hb⟩ := hrel
    have hjk : j ≤ k := by rw [← hj]; exact numW_len k _
    have HJ := Lib.hid hj
    clear hj
    obtain ⟨hcr, hfr, hzr⟩ := bcell hb
    by_cases hlt : k < cnt
    · by_cases hf : (rootF L) k = true
      · have Hf := Lib.hid (numW_yes hf)
        go_wp2_with fail
        refine (pieceFn_any k cnt bl u L b _ (hx.keep (by (repeat (first | (with_reducible assumption) | (with_reducible exact Below.refl _ _) | ((with_reducible refine Below.alloc ?_ ?hsz _); (case hsz => (first | omega | (simp; done) | (simp; omega) | (simp at *; omega)))) | ((with_reducible refine Below.setCell ?_ ?hsz _); (case hsz => (first | omega | (simp; done) | (simp; omega) | (simp at *; omega)))) | (with_reducible refine Below.drew ?_) | (with_reducible refine below_drewN ?_ _) | ((with_reducible refine Below.trans ?_ (Below.mono (by with_reducible assumption) ?hsz)); (case hsz => (first | omega | (simp; done) | (simp; omega) | (simp at *; omega)))))))) HL.out hlt (by (repeat (first | (with_reducible assumption) | ((with_reducible refine (Below.cell (by with_reducible assumption) ?hsz).trans ?_); (case hsz => (first | omega | (simp; done) | (simp; omega) | (simp at *; omega)))) | ((with_reducible refine (World.cell?_alloc_lt _ _ _ ?hsz).trans ?_); (case hsz => (first | omega | (simp; done) | (simp; omega) | (simp at *; omega)))) | ((with_reducible refine (World.cell?_setCell_other _ _ _ _ ?hsz).trans ?_); (case hsz => (intro h; injection h with h1 h2; omega))))))).mono ?_
        rintro e w2 ⟨rfl, hb2⟩
        have hown2 := own_keep hown (Nat.le_refl _) hb2
        have hz2' := hb2.size
        have hbw2 : Below w.heap.size w w2 := by (repeat (first | (with_reducible assumption) | (with_reducible exact Below.refl _ _) | ((with_reducible refine Below.alloc ?_ ?hsz _); (case hsz => (first | omega | (simp; done) | (simp; omega) | (simp at *; omega)))) | ((with_reducible refine Below.setCell ?_ ?hsz _); (case hsz => (first | omega | (simp; done) | (simp; omega) | (simp at *; omega)))) | (with_reducible refine Below.drew ?_) | (with_reducible refine below_drewN ?_ _) | ((with_reducible refine Below.trans ?_ (Below.mono (by with_reducible assumption) ?hsz)); (case hsz => (first | omega | (simp; done) | (simp; omega) | (simp at *; omega))))))
        have hrow : ∀ q, (Value.slice A1 j k1).ownBlock = some q → w.heap.size ≤ q := fun q hq => (hown.lt q hq).1
        clear hown hcr hfr hb hb2
        go_wp2_with (first
          | (at_builtin
             go_must (refine wpList_append_lies _ rfl _ _ 34 rfl w.heap.size 3 i0 _ 1 8 Try.underlying34 hi0 hz0 hz1 hz2 rfl (by omega) _ j _ rfl (hown2.alloc _) ⟨w2.heap.size, 0, none⟩ 1 1 [.int .i64 k] rfl rfl (World.news_of_block (cs := #[.int .i64 k]) (t := 3) (fr := (0, 0)) (heap_alloc_new _ _)) (by simp [Value.oneCell']) (by omega) (by unfold maxLen; omega) (by omega) (by simp; omega) _ rfl ?_)
             intro g2 k2 w7 hown7 hgr7 hat7 hlt7))
        have hb7 : Below w.heap.size w w7 := by
          refine Below.grown (w := w2.alloc (.cells #[.int .i64 k] 3)) (by (repeat (first | (with_reducible assumption) | (with_reducible exact Below.refl _ _) | ((with_reducible refine Below.alloc ?_ ?hsz _); (case hsz => (first | omega | (simp; done) | (simp; omega) | (simp at *; omega)))) | ((with_reducible refine Below.setCell ?_ ?hsz _); (case hsz => (first | omega | (simp; done) | (simp; omega) | (simp at *; omega)))) | (with_reducible refine Below.drew ?_) | (with_reducible refine below_drewN ?_ _) | ((with_reducible refine Below.trans ?_ (Below.mono (by with_reducible assumption) ?hsz)); (case hsz => (first | omega | (simp; done) | (simp; omega) | (simp at *; omega))))))) hgr7 (by (first | omega | (simp; done) | (simp; omega) | (simp at *; omega))) hrow
        have hown8 : w7.ownsRow w.heap.size 3 1 (.slice (some ⟨g2, 0, none⟩) (j + 1) k2) (j + 1) ((numW (k + 1) (rootF L)).map (Value.int .i64)) := by
          rw [Hf.out, List.map_append]
          simpa using hown7
        have hj8 : (numW (k + 1) (rootF L)).length = j + 1 := by rw [Hf.out, List.length_append, HJ.out]; rfl
        clear hown7 hgr7 hat7 hlt7
        go_roundw
        case rel => exact ⟨k + 1, j + 1, k2, some ⟨g2, 0, none⟩, by omega, by go_num, rfl, hj8, hown8, hb7⟩
        case measure => simp [intOf]; omega
      · have hf' : (rootF L) k = false := by simpa using hf
        have Hf := Lib.hid (numW_no hf')
        clear hf
        go_wp2_with fail
        refine (pieceFn_any k cnt bl u L b _ (hx.keep (by (repeat (first | (with_reducible assumption) | (with_reducible exact Below.refl _ _) | ((with_reducible refine Below.alloc ?_ ?hsz _); (case hsz => (first | omega | (simp; done) | (simp; omega) | (simp at *; omega)))) | ((with_reducible refine Below.setCell ?_ ?hsz _); (case hsz => (first | omega | (simp; done) | (simp; omega) | (simp at *; omega)))) | (with_reducible refine Below.drew ?_) | (with_reducible refine below_drewN ?_ _) | ((with_reducible refine Below.trans ?_ (Below.mono (by with_reducible assumption) ?hsz)); (case hsz => (first | omega | (simp; done) | (simp; omega) | (simp at *; omega)))))))) HL.out hlt (by (repeat (first | (with_reducible assumption) | ((with_reducible refine (Below.cell (by with_reducible assumption) ?hsz).trans ?_); (case hsz => (first | omega | (simp; done) | (simp; omega) | (simp at *; omega)))) | ((with_reducible refine (World.cell?_alloc_lt _ _ _ ?hsz).trans ?_); (case hsz => (first | omega | (simp; done) | (simp; omega) | (simp at *; omega)))) | ((with_reducible refine (World.cell?_setCell_other _ _ _ _ ?hsz).trans ?_); (case hsz => (intro h; injection h with h1 h2; omega))))))).mono ?_
        rintro e w2 ⟨rfl, hb2⟩
        have hown2 := own_keep hown (Nat.le_refl _) hb2
        have hbw2 : Below w.heap.size w w2 := by (repeat (first | (with_reducible assumption) | (with_reducible exact Below.refl _ _) | ((with_reducible refine Below.alloc ?_ ?hsz _); (case hsz => (first | omega | (simp; done) | (simp; omega) | (simp at *; omega)))) | ((with_reducible refine Below.setCell ?_ ?hsz _); (case hsz => (first | omega | (simp; done) | (simp; omega) | (simp at *; omega)))) | (with_reducible refine Below.drew ?_) | (with_reducible refine below_drewN ?_ _) | ((with_reducible refine Below.trans ?_ (Below.mono (by with_reducible assumption) ?hsz)); (case hsz => (first | omega | (simp; done) | (simp; omega) | (simp at *; omega))))))
        clear hown hcr hfr hb hb2
        go_wp2
        go_roundw
        case rel => exact ⟨k + 1, j, k1, A1, by omega, by go_num, rfl, by rw [Hf.out]; exact HJ.out, by rw [Hf.out]; exact hown2, hbw2⟩
        case measure => simp [intOf]; omega
    · go_wp2
      go_ret
      have hk2 : k = cnt := by omega
      subst hk2
      exact ⟨_, rfl, ⟨by rw [HJ.out]; exact hown, by rw [HJ.out]; unfold small; omega⟩, hb⟩

set_option maxHeartbeats 1000000 in
set_option maxRecDepth 20000 in
theorem piecesOf_any (n : Int) (v : Value) (ps : List Pp) (b : Nat) (w : World) (hp : Pipes w b v ps) :
    Calls Try.prog 32 #[.agg #[.int .i64 n, v]] w fun e w' => e = .returned (.int .i64 (piecesI n ps)) ∧ Below w.heap.size w w' := by
  have hp0 := hp
  obtain ⟨A, c, rfl, -, -, -, -⟩ := hp.form
  cases hok : netOkB n ps with
  | true =>
    obtain ⟨n2, n5, -, -⟩ := netOk_parts hok
    obtain ⟨N, rfl⟩ := Int.eq_ofNat_of_zero_le (show 0 ≤ n by omega)
    have Ht : Hid (piecesI (N : Int) ps = ((numW N (rootF (growL N ps ps.length))).length : Int)) := Lib.hid (by
      rw [piecesI, if_pos hok, rootF_len, Int.toNat_natCast]
      have := roots_len (k := ps.length) (net_endsIn hok) (Nat.le_refl _)
      unfold treeL
      omega)
    have HK := Lib.hid hok
    have hN5 : N ≤ 5 := by omega
    have bx0 := Box2.new w (.int .i64 (N : Int)) (.slice A ps.length c) 28
    go_enter Try.func32, Try.ntmps32
    go_wp2_with fail
    refine (netOk_any _ _ ps b _ (hp0.keep (by (repeat (first | (with_reducible assumption) | (with_reducible exact Below.refl _ _) | ((with_reducible refine Below.alloc ?_ ?hsz _); (case hsz => (first | omega | (simp; done) | (simp; omega) | (simp at *; omega)))) | ((with_reducible refine Below.setCell ?_ ?hsz _); (case hsz => (first | omega | (simp; done) | (simp; omega) | (simp at *; omega)))) | (with_reducible refine Below.drew ?_) | (with_reducible refine below_drewN ?_ _) | ((with_reducible refine Below.trans ?_ (Below.mono (by with_reducible assumption) ?hsz)); (case hsz => (first | omega | (simp; done) | (simp; omega) | (simp at *; omega))))))))).mono ?_
    rintro e w1 ⟨rfl, hb1⟩
    have bx1 := bx0.keep hb1
    have hB1 : Below w.heap.size w w1 := by (repeat (first | (with_reducible assumption) | (with_reducible exact Below.refl _ _) | ((with_reducible refine Below.alloc ?_ ?hsz _); (case hsz => (first | omega | (simp; done) | (simp; omega) | (simp at *; omega)))) | ((with_reducible refine Below.setCell ?_ ?hsz _); (case hsz => (first | omega | (simp; done) | (simp; omega) | (simp at *; omega)))) | (with_reducible refine Below.drew ?_) | (with_reducible refine below_drewN ?_ _) | ((with_reducible refine Below.trans ?_ (Below.mono (by with_reducible assumption) ?hsz)); (case hsz => (first | omega | (simp; done) | (simp; omega) | (simp at *; omega))))))
    rw [hok]
    clear bx0 hb1 hok
    obtain ⟨bs, d0, d1, -, -⟩ := id bx1
    go_wp2_with fail
    refine (grownTree_any N _ ps b _ (hp0.keep hB1) HK.out).mono ?_
    rintro e w2 ⟨r, s, rfl, -, hs, hb2⟩
    have bx2 := bx1.keep hb2
    have hB2 : Below w.heap.size w w2 := by (repeat (first | (with_reducible assumption) | (with_reducible exact Below.refl _ _) | ((with_reducible refine Below.alloc ?_ ?hsz _); (case hsz => (first | omega | (simp; done) | (simp; omega) | (simp at *; omega)))) | ((with_reducible refine Below.setCell ?_ ?hsz _); (case hsz => (first | omega | (simp; done) | (simp; omega) | (simp at *; omega)))) | (with_reducible refine Below.drew ?_) | (with_reducible refine below_drewN ?_ _) | ((with_reducible refine Below.trans ?_ (Below.mono (by with_reducible assumption) ?hsz)); (case hsz => (first | omega | (simp; done) | (simp; omega) | (simp at *; omega))))))
    clear bx1 hb2 d0 d1 bs
    obtain ⟨bs, d0, d1, -, -⟩ := id bx2
    obtain ⟨As, cs, rfl, -, -, -, -⟩ := hs.form
    go_wp2_with fail
    refine (piecesWhere_any N w2.heap.size _ (growL N ps ps.length) w1.heap.size _ (hs.keep (by (repeat (first | (with_reducible assumption) | (with_reducible exact Below.refl _ _) | ((with_reducible refine Below.alloc ?_ ?hsz _); (case hsz => (first | omega | (simp; done) | (simp; omega) | (simp at *; omega)))) | ((with_reducible refine Below.setCell ?_ ?hsz _); (case hsz => (first | omega | (simp; done) | (simp; omega) | (simp at *; omega)))) | (with_reducible refine Below.drew ?_) | (with_reducible refine below_drewN ?_ _) | ((with_reducible refine Below.trans ?_ (Below.mono (by with_reducible assumption) ?hsz)); (case hsz => (first | omega | (simp; done) | (simp; omega) | (simp at *; omega)))))))) (growL_len _ _ _) hN5 (by simp) (by simp)).mono ?_
    rintro e w3 ⟨r3, rfl, hr3, hb3⟩
    obtain ⟨A3, c3, rfl, -, -, -, -⟩ := hr3.form
    go_wp2
    go_ret
    exact ⟨ret_int Ht.out.symm, by (repeat (first | (with_reducible assumption) | (with_reducible exact Below.refl _ _) | ((with_reducible refine Below.alloc ?_ ?hsz _); (case hsz => (first | omega | (simp; done) | (simp; omega) | (simp at *; omega)))) | ((with_reducible refine Below.setCell ?_ ?hsz _); (case hsz => (first | omega | (simp; done) | (simp; omega) | (simp at *; omega)))) | (with_reducible refine Below.drew ?_) | (with_reducible refine below_drewN ?_ _) | ((with_reducible refine Below.trans ?_ (Below.mono (by with_reducible assumption) ?hsz)); (case hsz => (first | omega | (simp; done) | (simp; omega) | (simp at *; omega))))))⟩
  | false =>
    have Ht : Hid (piecesI n ps = -1) := Lib.hid (by rw [piecesI, if_neg (by simp [hok])])
    go_enter Try.func32, Try.ntmps32
    go_wp2_with fail
    refine (netOk_any _ _ ps b _ (hp0.keep (by (repeat (first | (with_reducible assumption) | (with_reducible exact Below.refl _ _) | ((with_reducible refine Below.alloc ?_ ?hsz _); (case hsz => (first | omega | (simp; done) | (simp; omega) | (simp at *; omega)))) | ((with_reducible refine Below.setCell ?_ ?hsz _); (case hsz => (first | omega | (simp; done) | (simp; omega) | (simp at *; omega)))) | (with_reducible refine Below.drew ?_) | (with_reducible refine below_drewN ?_ _) | ((with_reducible refine Below.trans ?_ (Below.mono (by with_reducible assumption) ?hsz)); (case hsz => (first | omega | (simp; done) | (simp; omega) | (simp at *; omega))))))))).mono ?_
    rintro e w1 ⟨rfl, hb1⟩
    rw [hok]
    go_wp2
    go_ret
    exact ⟨ret_int Ht.out.symm, by (repeat (first | (with_reducible assumption) | (with_reducible exact Below.refl _ _) | ((with_reducible refine Below.alloc ?_ ?hsz _); (case hsz => (first | omega | (simp; done) | (simp; omega) | (simp at *; omega)))) | ((with_reducible refine Below.setCell ?_ ?hsz _); (case hsz => (first | omega | (simp; done) | (simp; omega) | (simp at *; omega)))) | (with_reducible refine Below.drew ?_) | (with_reducible refine below_drewN ?_ _) | ((with_reducible refine Below.trans ?_ (Below.mono (by with_reducible assumption) ?hsz)); (case hsz => (first | omega | (simp; done) | (simp; omega) | (simp at *; omega))))))⟩

end Go.Proofs.Ytdbfpdanoclgmaa
