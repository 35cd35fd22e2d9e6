/- Contracts of the functions of chapter 7 in the model: the signs of rings. -/
import Derived.Test.YtmeicnhlehdboaaX1
import Derived.Test.YtmeicnhlehdboaaSG
import Derived.Test.YtmeicnhlehdboaaF1
namespace Go.Proofs.Ytmeicnhlehdboaa
open Go.RowKit

abbrev ofS7 (l : List Nat) : List Int := l.map fun s : Nat => (s : Int)

theorem made_row7 (w : World) {N : Nat} (h : N ≤ 4194304) : Row (w.alloc (.cells (madeCells #[.int .i64 0] N) 3)) w.heap.size w.heap.size N N (List.replicate N 0) :=
  ⟨made_ints w N 3 w.heap.size (Nat.le_refl _) h, h⟩
theorem freeQ_snoc {ps : List Pp} {T : List Int} {k : Nat} (hk : k < T.length) : freeQ ps (T.take (k + 1)) = freeQ ps (T.take k) ++ [⟨(ps.getD (T[k]).toNat zeroPp).fr, (ps.getD (T[k]).toNat zeroPp).to, 0, 2, 0⟩] := by
  unfold freeQ
  rw [List.take_succ_eq_append_getElem hk, List.map_append]
  rfl

/-- what the operations yield -/
def swV7 (N nb g m c k a e B : Nat) (fv hv : Value) (L : List Int) : Nat → Value → World → Prop
  | 0, x, _ => x = .agg #[.int .i64 (N : Int), fv]
  | 1, x, _ => x = hv
  | 2, x, _ => x = .pointer (some ⟨nb, 1, none⟩)
  | 3, x, _ => x = (.slice (some ⟨g, 0, none⟩) m c)
  | 4, x, _ => x = .int .i64 (k : Int)
  | 5, x, _ => x = .pointer (some ⟨g, k * 5, none⟩)
  | 6, x, _ => x = .pointer (some ⟨g, k * 5 + 1, none⟩)
  | 7, x, _ => x = .int .i64 (e : Int)
  | 8, x, _ => x = .pointer (some ⟨nb, 1, none⟩)
  | 9, x, _ => x = (.slice (some ⟨g, 0, none⟩) m c)
  | 10, x, _ => x = .int .i64 (k : Int)
  | 11, x, _ => x = .pointer (some ⟨g, k * 5, none⟩)
  | 12, x, _ => x = .pointer (some ⟨g, k * 5, none⟩)
  | 13, x, _ => x = .int .i64 (a : Int)
  | 14, x, w => Ints w B x L
  | 15, x, w => Ints w B x L
  | _, _, _ => True
theorem swV7_keep {N nb g m c k a e B : Nat} {fv hv : Value} {L : List Int} {x : Value} {k' : Nat} {w w' : World} (hb : Below w.heap.size w w') (h : swV7 N nb g m c k a e B fv hv L k' x w) : swV7 N nb g m c k a e B fv hv L k' x w' := by
  revert h
  unfold swV7
  split <;> intro h <;> first | exact h | exact h.keep hb

set_option maxHeartbeats 8000000 in
set_option maxRecDepth 20000 in
theorem specSigns_any (n at' : Int) (v : Value) (ps : List Pp) (b : Nat) (w : World) (hp : Pipes w b v ps) :
    Calls Try.prog 32 #[.agg #[.int .i64 n, v], .int .i64 at'] w fun e w' => ∃ r, e = .returned (.tuple #[r, .bool (signB n ps at')]) ∧ Ints w' w.heap.size r (signsR n ps at') ∧ Below w.heap.size w w' := by
  have hp0 := hp
  obtain ⟨A, c, rfl, hc1, hc2, hsm, hcell⟩ := hp.form
  unfold maxLen at hc2
  have bx0 := Box2.new w (.int .i64 n) (.slice A ps.length c) 25
  cases hok : netOkB n ps with
  | false =>
    have Hb : Hid (signB n ps at' = false) := Lib.hid (by simp [signB, hok])
    go_enter Try.func32, Try.ntmps32
    go_wp2_with fail
    refine (specNetOk_any _ _ ps b _ (hp0.keep (by (repeat (first | (with_reducible assumption) | (with_reducible exact Below.refl _ _) | ((with_reducible refine Below.alloc ?_ ?hsz _); (case hsz => (first | omega | (simp; done) | (simp; omega) | (simp at *; omega)))) | ((with_reducible refine Below.setCell ?_ ?hsz _); (case hsz => (first | omega | (simp; done) | (simp; omega) | (simp at *; omega)))) | (with_reducible refine Below.drew ?_) | (with_reducible refine below_drewN ?_ _) | ((with_reducible refine Below.trans ?_ (Below.mono (by with_reducible assumption) ?hsz)); (case hsz => (first | omega | (simp; done) | (simp; omega) | (simp at *; omega))))))))).mono ?_
    rintro e w1 ⟨rfl, hb1⟩
    have hB1 : Below w.heap.size w w1 := by (repeat (first | (with_reducible assumption) | (with_reducible exact Below.refl _ _) | ((with_reducible refine Below.alloc ?_ ?hsz _); (case hsz => (first | omega | (simp; done) | (simp; omega) | (simp at *; omega)))) | ((with_reducible refine Below.setCell ?_ ?hsz _); (case hsz => (first | omega | (simp; done) | (simp; omega) | (simp at *; omega)))) | (with_reducible refine Below.drew ?_) | (with_reducible refine below_drewN ?_ _) | ((with_reducible refine Below.trans ?_ (Below.mono (by with_reducible assumption) ?hsz)); (case hsz => (first | omega | (simp; done) | (simp; omega) | (simp at *; omega))))))
    have hz1 := hB1.size
    rw [hok]
    have HR := Lib.hid (row_empty7 w1 (Nat.le_refl _)).ints
    go_wp2
    go_ret2
    exact ⟨_, ret_vb Hb.out.symm, by rw [signsR_no Hb.out]; exact HR.out.mono hB1.size, by (repeat (first | (with_reducible assumption) | (with_reducible exact Below.refl _ _) | ((with_reducible refine Below.alloc ?_ ?hsz _); (case hsz => (first | omega | (simp; done) | (simp; omega) | (simp at *; omega)))) | ((with_reducible refine Below.setCell ?_ ?hsz _); (case hsz => (first | omega | (simp; done) | (simp; omega) | (simp at *; omega)))) | (with_reducible refine Below.drew ?_) | (with_reducible refine below_drewN ?_ _) | ((with_reducible refine Below.trans ?_ (Below.mono (by with_reducible assumption) ?hsz)); (case hsz => (first | omega | (simp; done) | (simp; omega) | (simp at *; omega))))))⟩
  | true =>
    obtain ⟨n2, n5, hl7, -⟩ := netOk_parts hok
    cases hin : withinB at' 0 ((ps.length : Int) - 1) with
    | false =>
      have Hb : Hid (signB n ps at' = false) := Lib.hid (by simp [signB, hin])
      go_enter Try.func32, Try.ntmps32
      go_wp2_with fail
      refine (specNetOk_any _ _ ps b _ (hp0.keep (by (repeat (first | (with_reducible assumption) | (with_reducible exact Below.refl _ _) | ((with_reducible refine Below.alloc ?_ ?hsz _); (case hsz => (first | omega | (simp; done) | (simp; omega) | (simp at *; omega)))) | ((with_reducible refine Below.setCell ?_ ?hsz _); (case hsz => (first | omega | (simp; done) | (simp; omega) | (simp at *; omega)))) | (with_reducible refine Below.drew ?_) | (with_reducible refine below_drewN ?_ _) | ((with_reducible refine Below.trans ?_ (Below.mono (by with_reducible assumption) ?hsz)); (case hsz => (first | omega | (simp; done) | (simp; omega) | (simp at *; omega))))))))).mono ?_
      rintro e w1 ⟨rfl, hb1⟩
      have bx1 := bx0.keep hb1
      have hB1 : Below w.heap.size w w1 := by (repeat (first | (with_reducible assumption) | (with_reducible exact Below.refl _ _) | ((with_reducible refine Below.alloc ?_ ?hsz _); (case hsz => (first | omega | (simp; done) | (simp; omega) | (simp at *; omega)))) | ((with_reducible refine Below.setCell ?_ ?hsz _); (case hsz => (first | omega | (simp; done) | (simp; omega) | (simp at *; omega)))) | (with_reducible refine Below.drew ?_) | (with_reducible refine below_drewN ?_ _) | ((with_reducible refine Below.trans ?_ (Below.mono (by with_reducible assumption) ?hsz)); (case hsz => (first | omega | (simp; done) | (simp; omega) | (simp at *; omega))))))
      rw [hok]
      clear bx0 hb1
      obtain ⟨bs, d0, d1, -, -⟩ := id bx1
      go_wp2_with fail
      refine (l1In_any at' 0 ((ps.length : Int) - 1) _).mono ?_
      rintro e w2 ⟨rfl, rfl⟩
      rw [hin]
      have hz1 := hB1.size
      have HR := Lib.hid (row_empty7 w1 (Nat.le_refl _)).ints
      go_wp2
      go_ret2
      exact ⟨_, ret_vb Hb.out.symm, by rw [signsR_no Hb.out]; exact HR.out.mono hB1.size, by (repeat (first | (with_reducible assumption) | (with_reducible exact Below.refl _ _) | ((with_reducible refine Below.alloc ?_ ?hsz _); (case hsz => (first | omega | (simp; done) | (simp; omega) | (simp at *; omega)))) | ((with_reducible refine Below.setCell ?_ ?hsz _); (case hsz => (first | omega | (simp; done) | (simp; omega) | (simp at *; omega)))) | (with_reducible refine Below.drew ?_) | (with_reducible refine below_drewN ?_ _) | ((with_reducible refine Below.trans ?_ (Below.mono (by with_reducible assumption) ?hsz)); (case hsz => (first | omega | (simp; done) | (simp; omega) | (simp at *; omega))))))⟩
    | true =>
      have hin' := hin
      simp only [withinB, Bool.and_eq_true, decide_eq_true_eq] at hin'
      obtain ⟨k0, rfl⟩ := Int.eq_ofNat_of_zero_le hin'.1
      obtain ⟨N, rfl⟩ := Int.eq_ofNat_of_zero_le (show 0 ≤ n by omega)
      have hk0 : k0 < ps.length := by omega
      have HK := Lib.hid hok
      have HT := Lib.hid (tree_in (n := N) hk0)
      have HE := Lib.hid (show ∀ p ∈ ps, endsIn (N : Int) p from net_endsIn hok)
      have HTR : Hid (treeR (N : Int) ps = treeL N ps) := Lib.hid (by rw [treeR, if_pos hok, Int.toNat_natCast])
      have HTM := Lib.hid (fun (t : Int) (h : t ∈ treeL N ps) => tree_mem h)
      have hfew := tree_few (n := N) (ps := ps) HE.out
      obtain ⟨i0, hi0, hz0, hz1, hz2⟩ := info_parts pipe_info
      obtain ⟨j0, hj0, hy0, hy1, hy2⟩ := info_parts int_info
      go_enter Try.func32, Try.ntmps32
      go_wp2_with fail
      refine (specNetOk_any _ _ ps b _ (hp0.keep (by (repeat (first | (with_reducible assumption) | (with_reducible exact Below.refl _ _) | ((with_reducible refine Below.alloc ?_ ?hsz _); (case hsz => (first | omega | (simp; done) | (simp; omega) | (simp at *; omega)))) | ((with_reducible refine Below.setCell ?_ ?hsz _); (case hsz => (first | omega | (simp; done) | (simp; omega) | (simp at *; omega)))) | (with_reducible refine Below.drew ?_) | (with_reducible refine below_drewN ?_ _) | ((with_reducible refine Below.trans ?_ (Below.mono (by with_reducible assumption) ?hsz)); (case hsz => (first | omega | (simp; done) | (simp; omega) | (simp at *; omega))))))))).mono ?_
      rintro e w1 ⟨rfl, hb1⟩
      have bx1 := bx0.keep hb1
      have hB1 : Below w.heap.size w w1 := by (repeat (first | (with_reducible assumption) | (with_reducible exact Below.refl _ _) | ((with_reducible refine Below.alloc ?_ ?hsz _); (case hsz => (first | omega | (simp; done) | (simp; omega) | (simp at *; omega)))) | ((with_reducible refine Below.setCell ?_ ?hsz _); (case hsz => (first | omega | (simp; done) | (simp; omega) | (simp at *; omega)))) | (with_reducible refine Below.drew ?_) | (with_reducible refine below_drewN ?_ _) | ((with_reducible refine Below.trans ?_ (Below.mono (by with_reducible assumption) ?hsz)); (case hsz => (first | omega | (simp; done) | (simp; omega) | (simp at *; omega))))))
      rw [hok]
      clear bx0 hb1
      obtain ⟨bs, d0, d1, -, -⟩ := id bx1
      go_wp2_with fail
      refine (l1In_any (k0 : Int) 0 ((ps.length : Int) - 1) _).mono ?_
      rintro e w2 ⟨rfl, rfl⟩
      rw [hin]
      clear hin hin' hok
      go_wp2_with fail
      refine (specTree_any (N : Int) _ ps b _ (hp0.keep hB1)).mono ?_
      rintro e w2 ⟨rt, rfl, ht, hb2⟩
      rw [HTR.out] at ht
      have bx2 := bx1.keep hb2
      have HW2 : Hid (w.heap.size < w2.heap.size) := Lib.hid bx2.1
      have hB2 : Below w.heap.size w w2 := hB1.trans (hb2.mono hB1.size)
      have hzz1 := hB1.size
      have hzz2 := hB2.size
      clear bx1 hb2 d0 d1 bs
      obtain ⟨bs, d0, d1, -, -⟩ := id bx2
      obtain ⟨At, ct, rfl, hct1, hct2, -, -⟩ := ht.form
      unfold maxLen at hct2
      obtain ⟨T, hT⟩ : ∃ T, treeL N ps = T := ⟨_, rfl⟩
      have HTT := Lib.hid hT
      rw [hT] at ht HTM hfew hct1 ⊢
      have hfN : (freeQ ps (T.take 0)).flatMap Pp.cells = [] := by simp [freeQ]
      have fx0 := Box2.new w2 (.int .i64 (N : Int)) (.slice none 0 0) 25
      have bx3 := bx2.keep ((Below.refl w2.heap.size w2).alloc (Nat.le_refl _) (.cells #[.int .i64 (N : Int), .slice none 0 0] 25))
      have Hf0 : Hid ((w2.alloc (.cells #[.int .i64 (N : Int), .slice none 0 0] 25)).ownsRow (w2.heap.size + 1) 51 5 (.slice none 0 0) 0 ((freeQ ps (T.take 0)).flatMap Pp.cells)) := Lib.hid (by rw [hfN]; exact World.ownsRow_nil _ _ _ _)
      clear hT hfN bx2
      go_wp2
      go_loopw [8] (fun i wr => ∃ (k c1 : Nat) (A1 : Option Addr), k ≤ T.length ∧ i = .int .i64 (k : Int) ∧ (∀ t ∈ T.take k, t ≠ (k0 : Int)) ∧ Box2 wr w2.heap.size (.int .i64 (N : Int)) (.slice A1 k c1) ∧
          wr.ownsRow (w2.heap.size + 1) 51 5 (.slice A1 k c1) k ((freeQ ps (T.take k)).flatMap Pp.cells) ∧ Box2 wr w.heap.size (.int .i64 (N : Int)) (.slice A ps.length c) ∧ Below w2.heap.size w2 wr) (fun i _ => T.length - (intOf i).toNat)
      case atStart => exact ⟨0, 0, none, by omega, rfl, by simp, fx0, Hf0.out, bx3, by (repeat (first | (with_reducible assumption) | (with_reducible exact Below.refl _ _) | ((with_reducible refine Below.alloc ?_ ?hsz _); (case hsz => (first | omega | (simp; done) | (simp; omega) | (simp at *; omega)))) | ((with_reducible refine Below.setCell ?_ ?hsz _); (case hsz => (first | omega | (simp; done) | (simp; omega) | (simp at *; omega)))) | (with_reducible refine Below.drew ?_) | (with_reducible refine below_drewN ?_ _) | ((with_reducible refine Below.trans ?_ (Below.mono (by with_reducible assumption) ?hsz)); (case hsz => (first | omega | (simp; done) | (simp; omega) | (simp at *; omega))))))⟩
      case round =>
        clear fx0 bx3 Hf0 d0 d1 bs
        obtain ⟨k, c1, A1, hk, rfl, hne, fx, hown, bx, hB⟩ := hrel
        have HNE := Lib.hid hne
        clear hne
        have hzb := hB.size
        obtain ⟨bs, d0, d1, -, -⟩ := id bx
        obtain ⟨fs, f0, f1, g0, g1⟩ := id fx
        by_cases hlt : k < T.length
        · obtain ⟨gt, hgt, -, hgt2, ct0, -⟩ := ht.cellAt hB k hlt
          subst hgt
          obtain ⟨q, hq, htq, hTq⟩ := HTM.out T[k] (List.getElem_mem hlt)
          rw [hTq] at ct0
          have HQ : Hid (freeQ ps (T.take (k + 1)) = freeQ ps (T.take k) ++ [⟨(ps.getD q zeroPp).fr, (ps.getD q zeroPp).to, 0, 2, 0⟩] ∧ T.take (k + 1) = T.take k ++ [(q : Int)]) := Lib.hid ⟨by rw [freeQ_snoc hlt, hTq, Int.toNat_natCast], by rw [List.take_succ_eq_append_getElem hlt, hTq]⟩
          have hgtr : gt < wr.heap.size := by omega
          clear hTq
          by_cases hqk : q = k0
          · have hq1 : ((q : Int) == (k0 : Int)) = true := by simp [hqk]
            have Hb : Hid (signB (N : Int) ps (k0 : Int) = false) := Lib.hid (by rw [hqk] at htq; simp [signB, htq])
            have HR := Lib.hid (row_empty7 wr (Nat.le_refl _)).ints
            clear hqk
            go_wp2
            go_ret2
            exact ⟨_, ret_vb Hb.out.symm, by rw [signsR_no Hb.out]; exact HR.out.mono (by omega), by (repeat (first | (with_reducible assumption) | (with_reducible exact Below.refl _ _) | ((with_reducible refine Below.alloc ?_ ?hsz _); (case hsz => (first | omega | (simp; done) | (simp; omega) | (simp at *; omega)))) | ((with_reducible refine Below.setCell ?_ ?hsz _); (case hsz => (first | omega | (simp; done) | (simp; omega) | (simp at *; omega)))) | (with_reducible refine Below.drew ?_) | (with_reducible refine below_drewN ?_ _) | ((with_reducible refine Below.trans ?_ (Below.mono (by with_reducible assumption) ?hsz)); (case hsz => (first | omega | (simp; done) | (simp; omega) | (simp at *; omega))))))⟩
          · have hq1 : ((q : Int) == (k0 : Int)) = false := by simp; omega
            have Hn := Lib.hid (show ∀ t ∈ T.take (k + 1), t ≠ (k0 : Int) from fun t ht => by
              rw [HQ.out.2] at ht
              rcases List.mem_append.1 ht with h | h
              · exact HNE.out t h
              · simp at h; subst h; omega)
            obtain ⟨g, rfl, hg1, hg2, q0, q1, q2, q3, q4⟩ := hcell wr (hB2.trans (hB.mono hzz2)) q hq
            have hgz : ps.getD q zeroPp = ps[q] := by simp [List.getD_eq_getElem?_getD, hq]
            rw [hgz] at HQ
            have hgr : g < wr.heap.size := by omega
            have hqL : (q : Int) < (ps.length : Int) := by omega
            clear hqk hgz
            go_wp2
            go_region
            have hBq : Below wr.heap.size wr ((wr.alloc (.cells #[.int .i64 ps[q].fr, .int .i64 ps[q].to, .int .i64 ps[q].le, .int .i64 ps[q].mo, .int .i64 ps[q].co] 51)).drew) := by (repeat (first | (with_reducible assumption) | (with_reducible exact Below.refl _ _) | ((with_reducible refine Below.alloc ?_ ?hsz _); (case hsz => (first | omega | (simp; done) | (simp; omega) | (simp at *; omega)))) | ((with_reducible refine Below.setCell ?_ ?hsz _); (case hsz => (first | omega | (simp; done) | (simp; omega) | (simp at *; omega)))) | (with_reducible refine Below.drew ?_) | (with_reducible refine below_drewN ?_ _) | ((with_reducible refine Below.trans ?_ (Below.mono (by with_reducible assumption) ?hsz)); (case hsz => (first | omega | (simp; done) | (simp; omega) | (simp at *; omega))))))
            have p0 : ((wr.alloc (.cells #[.int .i64 ps[q].fr, .int .i64 ps[q].to, .int .i64 ps[q].le, .int .i64 ps[q].mo, .int .i64 ps[q].co] 51)).drew).cell? ⟨wr.heap.size, 0, none⟩ = some (.int .i64 ps[q].fr) := by simp
            have p1 : ((wr.alloc (.cells #[.int .i64 ps[q].fr, .int .i64 ps[q].to, .int .i64 ps[q].le, .int .i64 ps[q].mo, .int .i64 ps[q].co] 51)).drew).cell? ⟨wr.heap.size, 1, none⟩ = some (.int .i64 ps[q].to) := by simp
            have hzq : wr.heap.size < ((wr.alloc (.cells #[.int .i64 ps[q].fr, .int .i64 ps[q].to, .int .i64 ps[q].le, .int .i64 ps[q].mo, .int .i64 ps[q].co] 51)).drew).heap.size := by simp
            generalize hwz : ((wr.alloc (.cells #[.int .i64 ps[q].fr, .int .i64 ps[q].to, .int .i64 ps[q].le, .int .i64 ps[q].mo, .int .i64 ps[q].co] 51)).drew) = wz at *
            have fx1 := fx.keep hBq
            have bx1 := bx.keep hBq
            have hown1 := own_keep hown (Nat.le_refl _) hBq
            have hBz : Below w2.heap.size w2 wz := hB.trans (hBq.mono hzb)
            have hzz := hBz.size
            have hrow : ∀ q', (Value.slice A1 k c1).ownBlock = some q' → w2.heap.size + 1 ≤ q' := fun q' hq' => (hown1.lt q' hq').1
            clear hwz hBq fx bx hown hB hzb d0 d1 bs fs f0 f1 g0 g1 q0 q1 q2 q3 q4 ct0
            obtain ⟨fs, f0, f1, g0, g1⟩ := id fx1
            generalize ps[q].fr = pf at *
            generalize ps[q].to = pt at *
            have hk7 : k ≤ 7 := by omega
            go_wp2_with (first
              | (at_builtin
                 go_must (refine wpList_append_lies _ rfl _ _ 23 rfl (w2.heap.size + 1) 51 i0 _ 5 40 Try.underlying23 hi0 hz0 hz1 hz2 rfl (by omega) _ k _ rfl (hown1.alloc _) ⟨wz.heap.size, 0, none⟩ 1 1 (Pp.cells ⟨pf, pt, 0, 2, 0⟩) rfl rfl (World.news_of_block (cs := (Pp.cells ⟨pf, pt, 0, 2, 0⟩).toArray) (t := 51) (fr := (0, 0)) (heap_alloc_new _ _)) (by simp [Pp.cells, Value.oneCell']) (by omega) (by unfold maxLen; omega) (by omega) (by simp; omega) _ rfl ?_)
                 intro g2 k2 w7 hown7 hgr7 hat7 hlt7
                 have fx7 := (fx1.keep ((Below.refl _ _).alloc (Nat.le_refl _) _)).grown hgr7 (by intro h; have := hrow _ h.symm; omega)
                 obtain ⟨fs7, v0, v1, v2, v3⟩ := id fx7))
            have bx7 := (bx1.keep ((Below.refl _ _).alloc (Nat.le_refl _) _)).grown hgr7 (by intro h; have := hrow _ h.symm; omega)
            have hB7 : Below w2.heap.size w2 w7 := Below.grown (w := wz.alloc (.cells (Pp.cells ⟨pf, pt, 0, 2, 0⟩).toArray 51)) (by (repeat (first | (with_reducible assumption) | (with_reducible exact Below.refl _ _) | ((with_reducible refine Below.alloc ?_ ?hsz _); (case hsz => (first | omega | (simp; done) | (simp; omega) | (simp at *; omega)))) | ((with_reducible refine Below.setCell ?_ ?hsz _); (case hsz => (first | omega | (simp; done) | (simp; omega) | (simp at *; omega)))) | (with_reducible refine Below.drew ?_) | (with_reducible refine below_drewN ?_ _) | ((with_reducible refine Below.trans ?_ (Below.mono (by with_reducible assumption) ?hsz)); (case hsz => (first | omega | (simp; done) | (simp; omega) | (simp at *; omega))))))) hgr7 (by (first | omega | (simp; done) | (simp; omega) | (simp at *; omega))) (fun q' hq' => by have := hrow q' hq'; omega)
            have hown8 : w7.ownsRow (w2.heap.size + 1) 51 5 (.slice (some ⟨g2, 0, none⟩) (k + 1) k2) (k + 1) ((freeQ ps (T.take (k + 1))).flatMap Pp.cells) := by
              rw [HQ.out.1, List.flatMap_append]
              simpa using hown7
            have HO := Lib.hid (ownsRow_setCell_below hown8 (a := ⟨w2.heap.size, 1, none⟩) (by simp) (.slice (some ⟨g2, 0, none⟩) (k + 1) k2))
            have hfne : w2.heap.size ≠ w.heap.size := by have := HW2.out; omega
            clear hown7 hgr7 hat7 hlt7 hown1 hrow hown8
            go_wp2
            go_roundw
            case rel => exact ⟨k + 1, k2, some ⟨g2, 0, none⟩, by omega, by go_num, Hn.out, fx7.set1 _, HO.out, bx7.far (p := ⟨w2.heap.size, 1, none⟩) (by simpa using hfne) _, by (repeat (first | (with_reducible assumption) | (with_reducible exact Below.refl _ _) | ((with_reducible refine Below.alloc ?_ ?hsz _); (case hsz => (first | omega | (simp; done) | (simp; omega) | (simp at *; omega)))) | ((with_reducible refine Below.setCell ?_ ?hsz _); (case hsz => (first | omega | (simp; done) | (simp; omega) | (simp at *; omega)))) | (with_reducible refine Below.drew ?_) | (with_reducible refine below_drewN ?_ _) | ((with_reducible refine Below.trans ?_ (Below.mono (by with_reducible assumption) ?hsz)); (case hsz => (first | omega | (simp; done) | (simp; omega) | (simp at *; omega))))))⟩
            case measure => simp [intOf]; omega
        · have hkL : T.length = k := by omega
          have Hk0 : Hid (treeF N ps k0 = false) := Lib.hid (by
            rw [← HT.out, HTT.out]
            refine decide_eq_false fun h => ?_
            exact HNE.out (k0 : Int) (by rw [← hkL, List.take_length]; exact h) rfl)
          have hlenT : (freeQ ps T).length = k := by rw [freeQ_len]; exact hkL
          have hfp : Pipes wr (w2.heap.size + 1) (.slice A1 k c1) (freeQ ps T) := by
            rw [← hkL, List.take_length] at hown
            refine ⟨?_, by rw [freeQ_len]; unfold small; omega⟩
            rw [freeQ_len, ← hkL]
            exact hown
          obtain ⟨Tn, hTn⟩ : ∃ Tn, T.length = Tn := ⟨_, rfl⟩
          have hkTn : Tn = k := by omega
          subst hkTn
          have HLT := Lib.hid hTn
          rw [hTn] at ht hct1 hfew ⊢
          have Hlt := Lib.hid hlt
          clear hown hkL hlenT
          have HF3 : Hid (w2.heap.size < wr.heap.size ∧ w.heap.size < wr.heap.size) := Lib.hid ⟨by have := fx.1; omega, by have := bx.1; omega⟩
          generalize wr = w3 at *
          have hR0 := row_empty7 w3 (b := w3.heap.size) (Nat.le_refl _)
          have fx3 := fx.keep ((Below.refl w3.heap.size w3).alloc (Nat.le_refl _) (.cells #[] 3))
          have bx3 := bx.keep ((Below.refl w3.heap.size w3).alloc (Nat.le_refl _) (.cells #[] 3))
          have hltd : decide ((Tn : Int) < (Tn : Int)) = false := decide_eq_false (by omega)
          clear hlt hTn HNE hk
          go_wp2
          go_loopw [11, 10] (fun i t wr => ∃ j gh ch : Nat, j ≤ Tn ∧ i = .int .i64 (j : Int) ∧ t = .slice (some ⟨gh, 0, none⟩) j ch ∧ Row wr w3.heap.size gh j ch (List.replicate j 1) ∧ Box2 wr w2.heap.size (.int .i64 (N : Int)) (.slice A1 Tn c1) ∧ Box2 wr w.heap.size (.int .i64 (N : Int)) (.slice A ps.length c) ∧ Below w3.heap.size w3 wr) (fun i _ _ => Tn - (intOf i).toNat)
          case atStart => exact ⟨0, w3.heap.size, 0, by omega, rfl, rfl, hR0, fx3, bx3, by (repeat (first | (with_reducible assumption) | (with_reducible exact Below.refl _ _) | ((with_reducible refine Below.alloc ?_ ?hsz _); (case hsz => (first | omega | (simp; done) | (simp; omega) | (simp at *; omega)))) | ((with_reducible refine Below.setCell ?_ ?hsz _); (case hsz => (first | omega | (simp; done) | (simp; omega) | (simp at *; omega)))) | (with_reducible refine Below.drew ?_) | (with_reducible refine below_drewN ?_ _) | ((with_reducible refine Below.trans ?_ (Below.mono (by with_reducible assumption) ?hsz)); (case hsz => (first | omega | (simp; done) | (simp; omega) | (simp at *; omega))))))⟩
          case round =>
            clear fx3 bx3 hR0 d0 d1 bs fs f0 f1 g0 g1 hltd
            obtain ⟨j, gh, ch, hj, rfl, rfl, hR, fx, bx, hC⟩ := hrel
            obtain ⟨bs, d0, d1, -, -⟩ := id bx
            obtain ⟨fs, f0, f1, g0, g1⟩ := id fx
            have hzc := hC.size
            have hown := hR.1
            have hcap := hR.capd
            unfold maxLen at hcap
            have hrow : ∀ q, (Value.slice (some ⟨gh, 0, none⟩) j ch).ownBlock = some q → w3.heap.size ≤ q := fun q hq => (hown.lt q hq).1
            have hj7 : j ≤ 7 := by omega
            by_cases hlt : j < Tn
            · go_wp2_with (first
                | (at_builtin
                   go_must (refine wpList_append_lies _ rfl _ _ 27 rfl w3.heap.size 3 j0 _ 1 8 Try.underlying27 hj0 hy0 hy1 hy2 rfl (by omega) _ j _ rfl (hown.alloc _) ⟨wr.heap.size, 0, none⟩ 1 1 [.int .i64 1] rfl rfl (World.news_of_block (cs := #[.int .i64 1]) (t := 3) (fr := (0, 0)) (heap_alloc_new _ _)) (by simp [Value.oneCell']) (by omega) (by unfold maxLen; omega) (by omega) (by simp; omega) _ rfl ?_)
                   intro g2 k2 w7 hown7 hgr7 hat7 hlt7))
              have hB3s := hB.size
              have hbxl := bx.1
              have fx7 := (fx.keep ((Below.refl _ _).alloc (Nat.le_refl _) _)).grown hgr7 (by intro h; have := hrow _ h.symm; have := HF3.out; omega)
              have bx7 := (bx.keep ((Below.refl _ _).alloc (Nat.le_refl _) _)).grown hgr7 (by intro h; have := hrow _ h.symm; have := HF3.out; omega)
              have hC7 : Below w3.heap.size w3 w7 := Below.grown (w := wr.alloc (.cells #[.int .i64 1] 3)) (by (repeat (first | (with_reducible assumption) | (with_reducible exact Below.refl _ _) | ((with_reducible refine Below.alloc ?_ ?hsz _); (case hsz => (first | omega | (simp; done) | (simp; omega) | (simp at *; omega)))) | ((with_reducible refine Below.setCell ?_ ?hsz _); (case hsz => (first | omega | (simp; done) | (simp; omega) | (simp at *; omega)))) | (with_reducible refine Below.drew ?_) | (with_reducible refine below_drewN ?_ _) | ((with_reducible refine Below.trans ?_ (Below.mono (by with_reducible assumption) ?hsz)); (case hsz => (first | omega | (simp; done) | (simp; omega) | (simp at *; omega))))))) hgr7 (by (first | omega | (simp; done) | (simp; omega) | (simp at *; omega))) (fun q hq => by have := hrow q hq; omega)
              have hR8 : Row w7 w3.heap.size g2 (j + 1) k2 (List.replicate (j + 1) 1) := ⟨by rw [List.replicate_succ', List.map_append]; exact hown7, by unfold small; omega⟩
              clear hown7 hgr7 hat7 hlt7 bx fx hown hrow hR hC hzc
              go_wp2
              go_roundw
              case rel => exact ⟨j + 1, g2, k2, by omega, by go_num, rfl, hR8, fx7, bx7, hC7⟩
              case measure => simp [intOf]; omega
            · have hjT : Tn = j := by omega
              have hfp4 := hfp.keep hC
              have hhr0 : Ints wr w3.heap.size (.slice (some ⟨gh, 0, none⟩) j ch) (halfQ T) := by
                have := hR.ints
                unfold halfQ
                rw [HLT.out, hjT]
                exact this
              have ht4 := (ht.keep hB).keep (hC.mono (Nat.le_refl _))
              have hB4 : Below w.heap.size w wr := (hB2.trans (hB.mono hzz2)).trans (hC.mono (by have := hB.size; omega))
              have HTn := Lib.hid hjT
              rw [← hjT] at hhr0 ⊢
              clear hR hjT hj
              have hfp3 := hfp4
              clear hfp4
              generalize wr = w4 at *
              have hltd : decide ((Tn : Int) < (Tn : Int)) = false := decide_eq_false (by omega)
              obtain ⟨g, rfl, hg1, hg2, qfr, qto, -, -, -⟩ := hcell w4 hB4 k0 hk0
              obtain ⟨a0, a1, b0, b1, -⟩ := HE.out ps[k0] (List.getElem_mem hk0)
              have hgz : ps.getD k0 zeroPp = ps[k0] := by simp [List.getD_eq_getElem?_getD, hk0]
              have HWB := Lib.hid (treeQ_way HK.out hk0)
              have HH := Lib.hid (halfQ_holds HK.out)
              obtain ⟨a, ha⟩ : ∃ a : Nat, ps[k0].fr = (a : Int) := ⟨ps[k0].fr.toNat, by omega⟩
              obtain ⟨e, he⟩ : ∃ e : Nat, ps[k0].to = (e : Int) := ⟨ps[k0].to.toNat, by omega⟩
              rw [ha] at a0 a1 qfr
              rw [he] at b0 b1 qto
              rw [Int.toNat_natCast, HTT.out] at HH
              obtain ⟨way, hway⟩ : ∃ way, way = wayR (N : Int) (freeQ ps T) (halfQ T) (e : Int) (a : Int) := ⟨_, rfl⟩
              have HW : Hid ((restL (N : Int) (freeQ ps T) (halfQ T) (a : Int) (e : Int)).map (fun s : Nat => (s : Int)) = ofS7 way) := Lib.hid (by
                have h1 := HWB.out
                rw [Int.toNat_natCast, HTT.out, hgz, ha, he] at h1
                rw [hway, wayR, if_pos h1, restL, if_pos (wayB_parts h1).2.2])
              have HS : Hid (signsR (N : Int) ps (k0 : Int) = (way.map (liftS T)).foldl signSet ((zeros ps).set k0 1) ∧ signB (N : Int) ps (k0 : Int) = true ∧ ∀ s ∈ way, s < 2 * Tn) := Lib.hid (by
                have hb : signB (N : Int) ps (k0 : Int) = true := by
                  simp only [signB, withinB, Bool.and_eq_true, decide_eq_true_eq, Int.toNat_natCast]
                  exact ⟨⟨HK.out, by omega, by omega⟩, by rw [Hk0.out]; rfl⟩
                have h1 := HWB.out
                rw [Int.toNat_natCast, HTT.out, hgz, ha, he] at h1
                refine ⟨?_, hb, fun s hs => ?_⟩
                · rw [signsR, if_pos hb, Int.toNat_natCast, signsM, Int.toNat_natCast, HTT.out, hgz, ha, he, ← hway]
                · rw [hway] at hs
                  have := ((wayR_ok h1).2.2.2.1 s hs).1
                  rw [freeQ_len, HLT.out] at this
                  exact this)
              have haN : a < N := by omega
              have heN : e < N := by omega
              have hkL : (k0 : Int) < (ps.length : Int) := by omega
              have hg4 : g < w4.heap.size := by have := hB4.size; omega
              have hhr := hhr0
              clear ha he hgz a0 a1 b0 b1 hway hhr0
              have hC0 : Below w4.heap.size w4 { w4 with drawn := w4.drawn + 1 } := ⟨rfl, rfl, rfl, Nat.le_refl _, fun _ _ => rfl⟩
              go_wp2_with fail
              refine wp_region_flow 16 none [(0, 74), (1, 75), (2, 76), (3, 77), (4, 78), (5, 79), (6, 80), (7, 81), (8, 82), (9, 83), (10, 84), (11, 85), (12, 86), (13, 87), (14, 88), (15, 12)] (fun j x _ wx => swV7 N w.heap.size g ps.length c k0 a e w4.heap.size (.slice A1 Tn c1) (.slice (some ⟨gh, 0, none⟩) Tn ch) (ofS7 way) j x wx) (fun _ wa wb => Below wa.heap.size wa wb) (fun _ wx => Below w4.heap.size w4 wx) (by kernel_rfl) (by kernel_rfl) rfl hC0 ?_ ?_ ?_ ?_
              · exact fun _ k _ _ _ x _ wa wb hR h => swV7_keep (k' := k) hR h
              · exact fun _ _ _ _ _ _ _ h => h
              · simp (maxSteps := 4000000) only [eachOp, fillF, List.setIfInBounds_toArray, List.set_cons_succ, List.set_cons_zero]
                refine ⟨?_, ?_, ?_, ?_, ?_, ?_, ?_, ?_, ?_, ?_, ?_, ?_, ?_, ?_, ?_, ?_, trivial⟩ <;> intro u f wx hC hd <;> (try simp [allV, useOf, Region.binds] at hd)
                · have e0 := (bel_cell hC (by omega)).trans f0
                  have e1 := (bel_cell hC (by omega)).trans f1
                  go_wp2
                  exact ⟨_, rfl, rfl, Below.refl _ _, hC⟩
                · go_wp2
                  exact ⟨_, rfl, rfl, Below.refl _ _, hC⟩
                · go_wp2
                  exact ⟨_, rfl, rfl, Below.refl _ _, hC⟩
                · rw [show u 2 = _ from (by first | exact hd | exact hd.1 | exact hd.2 | exact hd.2.1 | exact hd.2.2 | exact hd.2.2.1 | exact hd.2.2.2 | exact hd.2.2.2.1 | exact hd.2.2.2.2)]
                  have e0 := (bel_cell hC (by omega)).trans d1
                  go_wp2
                  exact ⟨_, rfl, rfl, Below.refl _ _, hC⟩
                · go_wp2
                  exact ⟨_, rfl, rfl, Below.refl _ _, hC⟩
                · rw [show u 3 = _ from (by first | exact hd | exact hd.1 | exact hd.2 | exact hd.2.1 | exact hd.2.2 | exact hd.2.2.1 | exact hd.2.2.2 | exact hd.2.2.2.1 | exact hd.2.2.2.2), show u 4 = _ from (by first | exact hd | exact hd.1 | exact hd.2 | exact hd.2.1 | exact hd.2.2 | exact hd.2.2.1 | exact hd.2.2.2 | exact hd.2.2.2.1 | exact hd.2.2.2.2)]
                  go_wp2
                  exact ⟨_, rfl, rfl, Below.refl _ _, hC⟩
                · rw [show u 5 = _ from (by first | exact hd | exact hd.1 | exact hd.2 | exact hd.2.1 | exact hd.2.2 | exact hd.2.2.1 | exact hd.2.2.2 | exact hd.2.2.2.1 | exact hd.2.2.2.2)]
                  go_wp2
                  exact ⟨_, rfl, rfl, Below.refl _ _, hC⟩
                · rw [show u 6 = _ from (by first | exact hd | exact hd.1 | exact hd.2 | exact hd.2.1 | exact hd.2.2 | exact hd.2.2.1 | exact hd.2.2.2 | exact hd.2.2.2.1 | exact hd.2.2.2.2)]
                  have e0 := (bel_cell hC (by omega)).trans qto
                  go_wp2
                  exact ⟨_, rfl, rfl, Below.refl _ _, hC⟩
                · go_wp2
                  exact ⟨_, rfl, rfl, Below.refl _ _, hC⟩
                · rw [show u 8 = _ from (by first | exact hd | exact hd.1 | exact hd.2 | exact hd.2.1 | exact hd.2.2 | exact hd.2.2.1 | exact hd.2.2.2 | exact hd.2.2.2.1 | exact hd.2.2.2.2)]
                  have e0 := (bel_cell hC (by omega)).trans d1
                  go_wp2
                  exact ⟨_, rfl, rfl, Below.refl _ _, hC⟩
                · go_wp2
                  exact ⟨_, rfl, rfl, Below.refl _ _, hC⟩
                · rw [show u 9 = _ from (by first | exact hd | exact hd.1 | exact hd.2 | exact hd.2.1 | exact hd.2.2 | exact hd.2.2.1 | exact hd.2.2.2 | exact hd.2.2.2.1 | exact hd.2.2.2.2), show u 10 = _ from (by first | exact hd | exact hd.1 | exact hd.2 | exact hd.2.1 | exact hd.2.2 | exact hd.2.2.1 | exact hd.2.2.2 | exact hd.2.2.2.1 | exact hd.2.2.2.2)]
                  go_wp2
                  exact ⟨_, rfl, rfl, Below.refl _ _, hC⟩
                · rw [show u 11 = _ from (by first | exact hd | exact hd.1 | exact hd.2 | exact hd.2.1 | exact hd.2.2 | exact hd.2.2.1 | exact hd.2.2.2 | exact hd.2.2.2.1 | exact hd.2.2.2.2)]
                  go_wp2
                  exact ⟨_, rfl, rfl, Below.refl _ _, hC⟩
                · rw [show u 12 = _ from (by first | exact hd | exact hd.1 | exact hd.2 | exact hd.2.1 | exact hd.2.2 | exact hd.2.2.1 | exact hd.2.2.2 | exact hd.2.2.2.1 | exact hd.2.2.2.2)]
                  have e0 := (bel_cell hC (by omega)).trans qfr
                  go_wp2
                  exact ⟨_, rfl, rfl, Below.refl _ _, hC⟩
                · rw [show u 0 = _ from (by first | exact hd | exact hd.1 | exact hd.2 | exact hd.2.1 | exact hd.2.2 | exact hd.2.2.1 | exact hd.2.2.2 | exact hd.2.2.2.1 | exact hd.2.2.2.2), show u 1 = _ from (by first | exact hd | exact hd.1 | exact hd.2 | exact hd.2.1 | exact hd.2.2 | exact hd.2.2.1 | exact hd.2.2.2 | exact hd.2.2.2.1 | exact hd.2.2.2.2), show u 7 = _ from (by first | exact hd | exact hd.1 | exact hd.2 | exact hd.2.1 | exact hd.2.2 | exact hd.2.2.1 | exact hd.2.2.2 | exact hd.2.2.2.1 | exact hd.2.2.2.2), show u 13 = _ from (by first | exact hd | exact hd.1 | exact hd.2 | exact hd.2.1 | exact hd.2.2 | exact hd.2.2.1 | exact hd.2.2.2 | exact hd.2.2.2.1 | exact hd.2.2.2.2)]
                  go_wp2_with fail
                  refine (specWay_any (N : Int) (e : Int) (a : Int) _ _ (freeQ ps T) (halfQ T) (w2.heap.size + 1) w3.heap.size wx (hfp3.keep hC) (hhr.keep hC) HH.out (by omega) (by omega) (by omega) (by omega)).mono ?_
                  rintro e' wy ⟨r, rfl, hr, hby⟩
                  rw [HW.out] at hr
                  go_wp2
                  exact ⟨_, rfl, hr.mono hC.size, hby, hC.trans (hby.mono hC.size)⟩
                · have h14 : Ints wx w4.heap.size (u 14) (ofS7 way) := hd
                  go_wp2
                  exact ⟨_, rfl, h14, Below.refl _ _, hC⟩
              · intro u f wx hC hfin
                simp only [fillEnd, fillF, Act.put, List.setIfInBounds_toArray, List.set_cons_succ, List.set_cons_zero]
                have hw15 : Ints wx w4.heap.size (u 15) (ofS7 way) := hfin 15 (by decide) (by decide)
                obtain ⟨Aw, cw, ev, hcw1, hcw2, -, -⟩ := hw15.form
                unfold maxLen at hcw2
                obtain ⟨W, hW⟩ : ∃ W, way.length = W := ⟨_, rfl⟩
                have hW' : (ofS7 way).length = W := by rw [List.length_map]; exact hW
                rw [hW'] at ev hcw1
                rw [ev] at hw15 ⊢
                have HWL := Lib.hid hW
                have bx5 := bx.keep hC
                have hBx : Below w.heap.size w wx := hB4.trans (hC.mono (by have := hB4.size; omega))
                have ht5 := ht4.keep hC
                have hBT : Hid (w.heap.size < wx.heap.size) := Lib.hid bx5.1
                have hmade := fun V => run_make_ints (n := ps.length) (by omega) V
                have hRm := made_row7 wx (N := ps.length) (by omega)
                have hgo := hRm.at' k0 hk0
                have hR5 := hRm.set k0 1
                have bx6 := (bx5.keep ((Below.refl wx.heap.size wx).alloc (Nat.le_refl _) (.cells (madeCells #[.int .i64 0] ps.length) 3))).far (p := ⟨wx.heap.size, k0, none⟩) (by have := hBT.out; simp; omega) (.int .i64 1)
                rw [World.setCell_alloc_at _ _ _ _ _ rfl] at hR5 bx6
                have HR5 := Lib.hid hR5
                obtain ⟨go0, go1⟩ := hgo
                have hzx := hBx.size
                clear hfin ev hW hW' d0 d1 bs fs f0 f1 g0 g1 hR5 hRm hC0 bx hltd qfr qto
                obtain ⟨bs, d0, d1, -, -⟩ := id bx5
                go_wp2
                clear go0 go1
                go_loopw [14] (fun i wr => ∃ k : Nat, k ≤ W ∧ i = .int .i64 (k : Int) ∧ Row wr wx.heap.size wx.heap.size ps.length ps.length (((way.take k).map (liftS T)).foldl signSet ((zeros ps).set k0 1)) ∧ Below wx.heap.size wx wr) (fun i _ => W - (intOf i).toNat)
                case atStart => exact ⟨0, by omega, rfl, HR5.out, by (repeat (first | (with_reducible assumption) | (with_reducible exact Below.refl _ _) | ((with_reducible refine Below.alloc ?_ ?hsz _); (case hsz => (first | omega | (simp; done) | (simp; omega) | (simp at *; omega)))) | ((with_reducible refine Below.setCell ?_ ?hsz _); (case hsz => (first | omega | (simp; done) | (simp; omega) | (simp at *; omega)))) | (with_reducible refine Below.drew ?_) | (with_reducible refine below_drewN ?_ _) | ((with_reducible refine Below.trans ?_ (Below.mono (by with_reducible assumption) ?hsz)); (case hsz => (first | omega | (simp; done) | (simp; omega) | (simp at *; omega))))))⟩
                case round =>
                  clear bx5 bx6 HR5 d0 d1 bs
                  obtain ⟨k, hk, rfl, hR, hD⟩ := hrel
                  have hzd := hD.size
                  by_cases hlt : k < W
                  · have hkw : k < way.length := by rw [HWL.out]; exact hlt
                    obtain ⟨gw, hgw, -, hgw2, cs, -⟩ := hw15.cellAt hD k (by rw [List.length_map]; exact hkw)
                    subst hgw
                    have cs' : wr.cell? ⟨gw, k, none⟩ = some (.int .i64 ((way[k] : Nat) : Int)) := by rw [cs]; simp
                    have hs2 := HS.out.2.2 way[k] (List.getElem_mem hkw)
                    have HSN : Hid (((way.take (k + 1)).map (liftS T)).foldl signSet ((zeros ps).set k0 1) = signSet (((way.take k).map (liftS T)).foldl signSet ((zeros ps).set k0 1)) (liftS T way[k])) := Lib.hid (by
                      rw [List.take_succ_eq_append_getElem hkw, List.map_append, List.foldl_append]; rfl)
                    generalize way[k] = s at *
                    obtain ⟨h, hh⟩ : ∃ h, s / 2 = h := ⟨_, rfl⟩
                    obtain ⟨r, hr⟩ : ∃ r, s % 2 = r := ⟨_, rfl⟩
                    have hhT : h < Tn := by omega
                    have hhT' : h < T.length := by rw [HLT.out]; exact hhT
                    obtain ⟨gt, hgt, -, hgt2, ct0, -⟩ := ht5.cellAt hD h hhT'
                    subst hgt
                    obtain ⟨q, hq, htq, hTq⟩ := HTM.out T[h] (List.getElem_mem hhT')
                    rw [hTq] at ct0
                    have HSS : Hid (∀ X : List Int, signSet X (liftS T s) = X.set q (1 - (r : Int) * 2)) := Lib.hid fun X => by
                      have e1 : liftS T s = 2 * q + r := by
                        rw [liftS, hh, hr, List.getD_eq_getElem?_getD, List.getElem?_eq_getElem hhT', Option.getD_some, hTq, Int.toNat_natCast]
                      rw [signSet, e1, show (2 * q + r) / 2 = q by omega, show (2 * q + r) % 2 = r by omega]
                    rw [HSS.out] at HSN
                    obtain ⟨X, hX⟩ : ∃ X, ((way.take k).map (liftS T)).foldl signSet ((zeros ps).set k0 1) = X := ⟨_, rfl⟩
                    rw [hX] at HSN hR
                    obtain ⟨y0, y1⟩ := hR.at' q hq
                    have hq1 : (s : Int) / 2 = (h : Int) := by omega
                    have hq2 : (s : Int).tdiv 2 = (h : Int) := by rw [Int.tdiv_eq_ediv_of_nonneg (Int.natCast_nonneg s)]; exact hq1
                    have hq3 : IntKind.i64.wrap (h : Int) = (h : Int) := IntWalk.i64_in _ (by omega)
                    have hr1 : (s : Int) % 2 = (r : Int) := by omega
                    have hr2 : (s : Int).tmod 2 = (r : Int) := by rw [Int.tmod_eq_emod_of_nonneg (Int.natCast_nonneg s)]; exact hr1
                    have hr3 : IntKind.i64.wrap (r : Int) = (r : Int) := IntWalk.i64_in _ (by omega)
                    have hr4 : (r : Int) ≤ 1 := by omega
                    have hr5 := IntWalk.i64_in ((r : Int) * 2) (by omega)
                    have hr6 := IntWalk.wrap64_in ((r : Int) * 2) (by omega)
                    have hr7 := IntWalk.i64_in (1 - (r : Int) * 2) (by omega)
                    have hr8 := IntWalk.wrap64_in (1 - (r : Int) * 2) (by omega)
                    have hgwr : gw < wr.heap.size := by omega
                    have hgtr : gt < wr.heap.size := by omega
                    have hglr := hR.lt.2
                    have hqL : (q : Int) < (ps.length : Int) := by omega
                    have hhL : (h : Int) < (Tn : Int) := by omega
                    have hkW : (k : Int) < (W : Int) := by omega
                    have HR := Lib.hid (hR.set q (1 - (r : Int) * 2))
                    clear cs hh hr hTq hX hs2
                    go_wp2
                    go_region
                    go_wp2
                    go_roundw
                    case rel => exact ⟨k + 1, by omega, by go_num, by rw [HSN.out]; exact HR.out.keep (by (repeat (first | (with_reducible assumption) | (with_reducible exact Below.refl _ _) | ((with_reducible refine Below.alloc ?_ ?hsz _); (case hsz => (first | omega | (simp; done) | (simp; omega) | (simp at *; omega)))) | ((with_reducible refine Below.setCell ?_ ?hsz _); (case hsz => (first | omega | (simp; done) | (simp; omega) | (simp at *; omega)))) | (with_reducible refine Below.drew ?_) | (with_reducible refine below_drewN ?_ _) | ((with_reducible refine Below.trans ?_ (Below.mono (by with_reducible assumption) ?hsz)); (case hsz => (first | omega | (simp; done) | (simp; omega) | (simp at *; omega))))))), by (repeat (first | (with_reducible assumption) | (with_reducible exact Below.refl _ _) | ((with_reducible refine Below.alloc ?_ ?hsz _); (case hsz => (first | omega | (simp; done) | (simp; omega) | (simp at *; omega)))) | ((with_reducible refine Below.setCell ?_ ?hsz _); (case hsz => (first | omega | (simp; done) | (simp; omega) | (simp at *; omega)))) | (with_reducible refine Below.drew ?_) | (with_reducible refine below_drewN ?_ _) | ((with_reducible refine Below.trans ?_ (Below.mono (by with_reducible assumption) ?hsz)); (case hsz => (first | omega | (simp; done) | (simp; omega) | (simp at *; omega))))))⟩
                    case measure => simp [intOf]; omega
                  · have hkW : k = W := by omega
                    rw [hkW, List.take_of_length_le (by rw [HWL.out]; exact Nat.le_refl _), ← HS.out.1] at hR
                    go_wp2
                    go_ret2
                    exact ⟨_, ret_vb HS.out.2.1.symm, hR.ints.mono hzx, hBx.trans (hD.mono hzx)⟩

end Go.Proofs.Ytmeicnhlehdboaa
