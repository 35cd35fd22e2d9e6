/- FnHoldsOk: for every code the law holds: the program's HoldsOk answers as the model; the least amounts of a net are held, and the most ones; and the turned net holds a flow exactly if the net does. No condition. -/
import Derived.Test.YtlebamdgcfhdaaaL2
import Derived.Test.YtlebamdgcfhdaaaMG
import Derived.Test.YtlebamdgcfhdaaaW3
import Derived.Test.YtlebamdgcfhdaaaW5
import Derived.Test.YtlebamdgcfhdaaaS3
namespace Go.Proofs.Ytlebamdgcfhdaaa.lawHoldsOk
open Go.ChangeShapes Go.WideShapes Go.ChangeAt Go.RowKit Go.Deep Go.Joins

set_option maxRecDepth 20000 in
set_option maxHeartbeats 2000000 in
set_option maxRecDepth 20000 in
theorem walk (v : Value) (n : Nat) (w : World) (h : ArgBytes w v n) :
    Calls Try.prog 6 #[v] w fun e w' => e = .returned (.bool true) ∧ Below w.heap.size w w' := by
  obtain ⟨A, c, rfl, hc1, hc2, -⟩ := id h
  unfold maxLen at hc2
  by_cases hbig : 1048576 < n
  · go_enter Try.func6, Try.ntmps6
    go_wp2
    go_ret
    exact ⟨rfl, by (repeat (first | (with_reducible assumption) | (with_reducible exact Below.refl _ _) | ((with_reducible refine Below.alloc ?_ ?hsz _); (case hsz => (first | omega | (simp; done) | (simp; omega) | (simp at *; omega)))) | ((with_reducible refine Below.setCell ?_ ?hsz _); (case hsz => (first | omega | (simp; done) | (simp; omega) | (simp at *; omega)))) | (with_reducible refine Below.drew ?_) | (with_reducible refine below_drewN ?_ _) | ((with_reducible refine Below.trans ?_ (Below.mono (by with_reducible assumption) ?hsz)); (case hsz => (first | omega | (simp; done) | (simp; omega) | (simp at *; omega))))))⟩
  go_enter Try.func6, Try.ntmps6
  go_wp2_with fail
  with_reducible refine (drawHoldsOk_any _ n _ (h.keep (by (repeat (first | (with_reducible assumption) | (with_reducible exact Below.refl _ _) | ((with_reducible refine Below.alloc ?_ ?hsz _); (case hsz => (first | omega | (simp; done) | (simp; omega) | (simp at *; omega)))) | ((with_reducible refine Below.setCell ?_ ?hsz _); (case hsz => (first | omega | (simp; done) | (simp; omega) | (simp at *; omega)))) | (with_reducible refine Below.drew ?_) | (with_reducible refine below_drewN ?_ _) | ((with_reducible refine Below.trans ?_ (Below.mono (by with_reducible assumption) ?hsz)); (case hsz => (first | omega | (simp; done) | (simp; omega) | (simp at *; omega))))))))).mono ?_
  rintro e w1 ⟨z, ps, u, xs, t, rfl, hp, hx, hb1, hl8, hz1, hz6⟩
  have hBw1 : Below w.heap.size w w1 := by (repeat (first | (with_reducible assumption) | (with_reducible exact Below.refl _ _) | ((with_reducible refine Below.alloc ?_ ?hsz _); (case hsz => (first | omega | (simp; done) | (simp; omega) | (simp at *; omega)))) | ((with_reducible refine Below.setCell ?_ ?hsz _); (case hsz => (first | omega | (simp; done) | (simp; omega) | (simp at *; omega)))) | (with_reducible refine Below.drew ?_) | (with_reducible refine below_drewN ?_ _) | ((with_reducible refine Below.trans ?_ (Below.mono (by with_reducible assumption) ?hsz)); (case hsz => (first | omega | (simp; done) | (simp; omega) | (simp at *; omega))))))
  clear h hc1 hc2 hbig
  obtain ⟨A1, c1, rfl, hk1, hk2, hsm, -⟩ := hp.form
  unfold maxLen at hk2
  have bx1 : Box2 (w1.alloc (.cells #[.int .i64 z, .slice A1 ps.length c1] 28)) w1.heap.size (.int .i64 z) (.slice A1 ps.length c1) := Box2.new _ _ _ _
  have hB1 : Below w1.heap.size w1 (w1.alloc (.cells #[.int .i64 z, .slice A1 ps.length c1] 28)) := by (repeat (first | (with_reducible assumption) | (with_reducible exact Below.refl _ _) | ((with_reducible refine Below.alloc ?_ ?hsz _); (case hsz => (first | omega | (simp; done) | (simp; omega) | (simp at *; omega)))) | ((with_reducible refine Below.setCell ?_ ?hsz _); (case hsz => (first | omega | (simp; done) | (simp; omega) | (simp at *; omega)))) | (with_reducible refine Below.drew ?_) | (with_reducible refine below_drewN ?_ _) | ((with_reducible refine Below.trans ?_ (Below.mono (by with_reducible assumption) ?hsz)); (case hsz => (first | omega | (simp; done) | (simp; omega) | (simp at *; omega))))))
  go_wp2_with fail
  with_reducible refine (holdsOk_any z _ _ ps xs _ _ _ (hp.keep hB1) (hx.keep hB1)).mono ?_
  rintro e w2 ⟨rfl, hnn⟩
  have bx2 := (bx1).keep hnn
  have hB2 : Below w1.heap.size w1 w2 := by (repeat (first | (with_reducible assumption) | (with_reducible exact Below.refl _ _) | ((with_reducible refine Below.alloc ?_ ?hsz _); (case hsz => (first | omega | (simp; done) | (simp; omega) | (simp at *; omega)))) | ((with_reducible refine Below.setCell ?_ ?hsz _); (case hsz => (first | omega | (simp; done) | (simp; omega) | (simp at *; omega)))) | (with_reducible refine Below.drew ?_) | (with_reducible refine below_drewN ?_ _) | ((with_reducible refine Below.trans ?_ (Below.mono (by with_reducible assumption) ?hsz)); (case hsz => (first | omega | (simp; done) | (simp; omega) | (simp at *; omega))))))
  clear hnn
  (try clear d0 d1 g0 g1)
  obtain ⟨bs, d0, d1, g0, g1⟩ := id bx2
  go_wp2_with fail
  with_reducible refine (specHoldsOk_any z _ _ ps xs _ _ _ (hp.keep hB2) (hx.keep hB2)).mono ?_
  rintro e w3 ⟨rfl, hnn⟩
  have bx3 := (bx2).keep hnn
  have hB3 : Below w1.heap.size w1 w3 := by (repeat (first | (with_reducible assumption) | (with_reducible exact Below.refl _ _) | ((with_reducible refine Below.alloc ?_ ?hsz _); (case hsz => (first | omega | (simp; done) | (simp; omega) | (simp at *; omega)))) | ((with_reducible refine Below.setCell ?_ ?hsz _); (case hsz => (first | omega | (simp; done) | (simp; omega) | (simp at *; omega)))) | (with_reducible refine Below.drew ?_) | (with_reducible refine below_drewN ?_ _) | ((with_reducible refine Below.trans ?_ (Below.mono (by with_reducible assumption) ?hsz)); (case hsz => (first | omega | (simp; done) | (simp; omega) | (simp at *; omega))))))
  clear hnn
  (try clear d0 d1 g0 g1)
  obtain ⟨bs, d0, d1, g0, g1⟩ := id bx3
  go_wp2_with fail
  with_reducible refine (specNetOk_any z _ ps _ _ (hp.keep hB3)).mono ?_
  rintro e w4 ⟨rfl, hnn⟩
  have bx4 := (bx3).keep hnn
  have hB4 : Below w1.heap.size w1 w4 := by (repeat (first | (with_reducible assumption) | (with_reducible exact Below.refl _ _) | ((with_reducible refine Below.alloc ?_ ?hsz _); (case hsz => (first | omega | (simp; done) | (simp; omega) | (simp at *; omega)))) | ((with_reducible refine Below.setCell ?_ ?hsz _); (case hsz => (first | omega | (simp; done) | (simp; omega) | (simp at *; omega)))) | (with_reducible refine Below.drew ?_) | (with_reducible refine below_drewN ?_ _) | ((with_reducible refine Below.trans ?_ (Below.mono (by with_reducible assumption) ?hsz)); (case hsz => (first | omega | (simp; done) | (simp; omega) | (simp at *; omega))))))
  clear hnn
  (try clear d0 d1 g0 g1)
  obtain ⟨bs, d0, d1, g0, g1⟩ := id bx4
  by_cases hok : netOkB z ps = true
  · have hn := netOk_parts hok
    have HL := Lib.hid (holds_least hok)
    have HM := Lib.hid (holds_most hok)
    have HT := Lib.hid (holds_turn z ps xs)
    obtain ⟨bb, hbb⟩ : ∃ bb, bb = holdsB z ps xs := ⟨_, rfl⟩
    rw [← hbb] at HT ⊢
    have hl7 := hn.2.2.1
    clear hbb
    obtain ⟨i0, hi0, hq0, hq1, hq2⟩ := info_parts int_info
    have hs4 := hB4.size
    go_wp2_with fail
    have hown1 : ((w4.alloc (.cells #[] 3)).alloc (.cells #[] 3)).ownsRow w4.heap.size 3 1 (.slice (some ⟨w4.heap.size, 0, none⟩) 0 0) 0 [] := (World.ownsRow_lit (e := 3) (base := w4.heap.size) (size := 1) w4 #[] 0 (Nat.le_refl _) (by simp [maxLen]) rfl).alloc _
    have hown2 : ((w4.alloc (.cells #[] 3)).alloc (.cells #[] 3)).ownsRow w4.heap.size 3 1 (.slice (some ⟨w4.heap.size + 1, 0, none⟩) 0 0) 0 [] := by
      have h := World.ownsRow_lit (e := 3) (base := w4.heap.size) (size := 1) (w4.alloc (.cells #[] 3)) #[] 0 (by simp) (by simp [maxLen]) rfl
      rw [World.size_alloc] at h
      exact h
    have bx4' := bx4.keep (w' := (w4.alloc (.cells #[] 3)).alloc (.cells #[] 3)) (by (repeat (first | (with_reducible assumption) | (with_reducible exact Below.refl _ _) | ((with_reducible refine Below.alloc ?_ ?hsz _); (case hsz => (first | omega | (simp; done) | (simp; omega) | (simp at *; omega)))) | ((with_reducible refine Below.setCell ?_ ?hsz _); (case hsz => (first | omega | (simp; done) | (simp; omega) | (simp at *; omega)))) | (with_reducible refine Below.drew ?_) | (with_reducible refine below_drewN ?_ _) | ((with_reducible refine Below.trans ?_ (Below.mono (by with_reducible assumption) ?hsz)); (case hsz => (first | omega | (simp; done) | (simp; omega) | (simp at *; omega)))))))
    have hB4' : Below w1.heap.size w1 ((w4.alloc (.cells #[] 3)).alloc (.cells #[] 3)) := by (repeat (first | (with_reducible assumption) | (with_reducible exact Below.refl _ _) | ((with_reducible refine Below.alloc ?_ ?hsz _); (case hsz => (first | omega | (simp; done) | (simp; omega) | (simp at *; omega)))) | ((with_reducible refine Below.setCell ?_ ?hsz _); (case hsz => (first | omega | (simp; done) | (simp; omega) | (simp at *; omega)))) | (with_reducible refine Below.drew ?_) | (with_reducible refine below_drewN ?_ _) | ((with_reducible refine Below.trans ?_ (Below.mono (by with_reducible assumption) ?hsz)); (case hsz => (first | omega | (simp; done) | (simp; omega) | (simp at *; omega))))))
    go_loopw [8, 6, 7] (fun i s r wr => ∃ k g1 k1 g2 k2 : Nat, k ≤ ps.length ∧ i = .int .i64 k ∧ s = .slice (some ⟨g1, 0, none⟩) k k1 ∧ r = .slice (some ⟨g2, 0, none⟩) k k2 ∧ g1 ≠ g2 ∧
        wr.ownsRow w4.heap.size 3 1 (.slice (some ⟨g1, 0, none⟩) k k1) k (((ps.take k).map Pp.le).map (Value.int .i64)) ∧ wr.ownsRow w4.heap.size 3 1 (.slice (some ⟨g2, 0, none⟩) k k2) k (((ps.take k).map Pp.mo).map (Value.int .i64)) ∧
        Box2 wr w1.heap.size (.int .i64 z) (.slice A1 ps.length c1) ∧ Below w1.heap.size w1 wr) (fun i _ _ _ => ps.length - (intOf i).toNat)
    case atStart => exact ⟨0, _, 0, _, 0, by omega, rfl, rfl, rfl, by omega, hown1, hown2, bx4', hB4'⟩
    case round =>
      obtain ⟨k, g1, k1, g2, k2, hk, rfl, rfl, rfl, hne, o1, o2, bx, hB⟩ := hrel
      clear d0 d1 g0 hown1 hown2 bx4' hB4'
      obtain ⟨bs, d0, d1, -, -⟩ := id bx
      by_cases hlt : k < ps.length
      · obtain ⟨gp, rfl, hgp1, hgp2, p0, p1, p2, p3, p4⟩ := (hp.keep hB).at' k hlt
        have hg1 := o1.lt g1 rfl
        have hg2 := o2.lt g2 rfl
        have ht1 : (ps.take (k + 1)).map Pp.le = (ps.take k).map Pp.le ++ [ps[k].le] := by rw [List.take_succ_eq_append_getElem hlt, List.map_append]; rfl
        have ht2 : (ps.take (k + 1)).map Pp.mo = (ps.take k).map Pp.mo ++ [ps[k].mo] := by rw [List.take_succ_eq_append_getElem hlt, List.map_append]; rfl
        have HT1 := Lib.hid ht1
        have HT2 := Lib.hid ht2
        clear ht1 ht2
        go_upto_region 15 with (first
          | (at_builtin
             go_must (refine wpList_append_lies _ rfl _ _ 35 rfl w4.heap.size 3 i0 _ 1 8 Try.underlying35 hi0 hq0 hq1 hq2 rfl (by omega) _ k _ rfl (o1.alloc _) ⟨wr.heap.size, 0, none⟩ 1 1 [.int .i64 ps[k].le] rfl rfl (World.news_of_block (cs := #[.int .i64 ps[k].le]) (t := 3) (fr := (0, 0)) (heap_alloc_new _ _)) (by simp [Value.oneCell']) (by omega) (by unfold maxLen; omega) (by omega) (by simp; omega) _ rfl ?_)
             intro g3 k3 w7 o3 hgr7 hat7 hlt7))
        have o2' := (o2.alloc (.cells #[.int .i64 ps[k].le] 3)).kept hgr7 (.inr (by intro hh; injection hh with hh; dsimp only at hh; omega))
        have bx7 := (bx.keep ((Below.refl _ _).alloc (Nat.le_refl _) (.cells #[.int .i64 ps[k].le] 3))).grown hgr7 (by intro hh; injection hh with hh; dsimp only at hh; omega)
        have hB7 : Below w1.heap.size w1 w7 := Below.grown (w := wr.alloc (.cells #[.int .i64 ps[k].le] 3)) (by (repeat (first | (with_reducible assumption) | (with_reducible exact Below.refl _ _) | ((with_reducible refine Below.alloc ?_ ?hsz _); (case hsz => (first | omega | (simp; done) | (simp; omega) | (simp at *; omega)))) | ((with_reducible refine Below.setCell ?_ ?hsz _); (case hsz => (first | omega | (simp; done) | (simp; omega) | (simp at *; omega)))) | (with_reducible refine Below.drew ?_) | (with_reducible refine below_drewN ?_ _) | ((with_reducible refine Below.trans ?_ (Below.mono (by with_reducible assumption) ?hsz)); (case hsz => (first | omega | (simp; done) | (simp; omega) | (simp at *; omega))))))) hgr7 (by (first | omega | (simp; done) | (simp; omega) | (simp at *; omega))) (fun q hq => by injection hq with hq; dsimp only at hq; omega)
        have hne7 : g3 ≠ g2 := by
          rcases hat7 with hh | hh
          · injection hh with hh; dsimp only at hh; omega
          · (try simp at hh); omega
        rw [← List.map_singleton (f := Value.int .i64), ← List.map_append, ← HT1.out] at o3
        clear o1 o2 hgr7 hat7 hne bx hB p0 p1 p2 p3 p4 d0 d1
        obtain ⟨bs7, d0, d1, -, -⟩ := id bx7
        obtain ⟨gp', hgp, hgp1', hgp2', p0, p1, p2, p3, p4⟩ := (hp.keep hB7).at' k hlt
        injection hgp with hgp
        injection hgp with hgp _
        subst hgp
        have hg3 := o3.lt g3 rfl
        go_wp2_with (first
          | (at_builtin
             go_must (refine wpList_append_lies _ rfl _ _ 35 rfl w4.heap.size 3 i0 _ 1 8 Try.underlying35 hi0 hq0 hq1 hq2 rfl (by omega) _ k _ rfl (o2'.alloc _) ⟨w7.heap.size, 0, none⟩ 1 1 [.int .i64 ps[k].mo] rfl rfl (World.news_of_block (cs := #[.int .i64 ps[k].mo]) (t := 3) (fr := (0, 0)) (heap_alloc_new _ _)) (by simp [Value.oneCell']) (by omega) (by unfold maxLen; omega) (by omega) (by simp; omega) _ rfl ?_)
             intro g4 k4 w8 o4 hgr8 hat8 hlt8))
        have o3' := (o3.alloc (.cells #[.int .i64 ps[k].mo] 3)).kept hgr8 (.inr (by intro hh; injection hh with hh; dsimp only at hh; omega))
        have bx8 := (bx7.keep ((Below.refl _ _).alloc (Nat.le_refl _) (.cells #[.int .i64 ps[k].mo] 3))).grown hgr8 (by intro hh; injection hh with hh; dsimp only at hh; omega)
        have hB8 : Below w1.heap.size w1 w8 := Below.grown (w := w7.alloc (.cells #[.int .i64 ps[k].mo] 3)) (by (repeat (first | (with_reducible assumption) | (with_reducible exact Below.refl _ _) | ((with_reducible refine Below.alloc ?_ ?hsz _); (case hsz => (first | omega | (simp; done) | (simp; omega) | (simp at *; omega)))) | ((with_reducible refine Below.setCell ?_ ?hsz _); (case hsz => (first | omega | (simp; done) | (simp; omega) | (simp at *; omega)))) | (with_reducible refine Below.drew ?_) | (with_reducible refine below_drewN ?_ _) | ((with_reducible refine Below.trans ?_ (Below.mono (by with_reducible assumption) ?hsz)); (case hsz => (first | omega | (simp; done) | (simp; omega) | (simp at *; omega))))))) hgr8 (by (first | omega | (simp; done) | (simp; omega) | (simp at *; omega))) (fun q hq => by injection hq with hq; dsimp only at hq; omega)
        have hne8 : g3 ≠ g4 := by
          rcases hat8 with hh | hh
          · injection hh with hh; dsimp only at hh; omega
          · (try simp at hh); omega
        rw [← List.map_singleton (f := Value.int .i64), ← List.map_append, ← HT2.out] at o4
        go_roundw
        case rel => exact ⟨k + 1, g3, k3, g4, k4, by omega, by go_num, rfl, rfl, hne8, o3', o4, bx8, hB8⟩
        case measure => simp [intOf]; omega
      · obtain rfl : k = ps.length := by omega
        rw [List.take_of_length_le (Nat.le_refl _)] at o1 o2
        have l1 : (ps.map Pp.le).length = ps.length := List.length_map _
        have l2 : (ps.map Pp.mo).length = ps.length := List.length_map _
        have x1 : Ints wr w4.heap.size (.slice (some ⟨g1, 0, none⟩) ps.length k1) (ps.map Pp.le) := ⟨by rw [l1]; exact o1, by rw [l1]; exact hsm⟩
        have x2 : Ints wr w4.heap.size (.slice (some ⟨g2, 0, none⟩) ps.length k2) (ps.map Pp.mo) := ⟨by rw [l2]; exact o2, by rw [l2]; exact hsm⟩
        clear l1 l2 o1 o2
        go_wp2_with fail
        with_reducible refine (holdsOk_any z _ _ ps (ps.map Pp.le) _ _ _ (hp.keep hB) x1).mono ?_
        rintro e w5 ⟨rfl, hn5⟩
        have bx5 := bx.keep hn5
        have hB5 : Below w1.heap.size w1 w5 := by (repeat (first | (with_reducible assumption) | (with_reducible exact Below.refl _ _) | ((with_reducible refine Below.alloc ?_ ?hsz _); (case hsz => (first | omega | (simp; done) | (simp; omega) | (simp at *; omega)))) | ((with_reducible refine Below.setCell ?_ ?hsz _); (case hsz => (first | omega | (simp; done) | (simp; omega) | (simp at *; omega)))) | (with_reducible refine Below.drew ?_) | (with_reducible refine below_drewN ?_ _) | ((with_reducible refine Below.trans ?_ (Below.mono (by with_reducible assumption) ?hsz)); (case hsz => (first | omega | (simp; done) | (simp; omega) | (simp at *; omega))))))
        have x5 := x2.keep hn5
        clear hn5 d0 d1
        obtain ⟨bs5, d0, d1, g0, g1'⟩ := id bx5
        rw [HL.out]
        go_wp2_with fail
        with_reducible refine (holdsOk_any z _ _ ps (ps.map Pp.mo) _ _ _ (hp.keep hB5) x5).mono ?_
        rintro e w6 ⟨rfl, hnn⟩
        have bx6 := (bx5).keep hnn
        have hB6 : Below w1.heap.size w1 w6 := by (repeat (first | (with_reducible assumption) | (with_reducible exact Below.refl _ _) | ((with_reducible refine Below.alloc ?_ ?hsz _); (case hsz => (first | omega | (simp; done) | (simp; omega) | (simp at *; omega)))) | ((with_reducible refine Below.setCell ?_ ?hsz _); (case hsz => (first | omega | (simp; done) | (simp; omega) | (simp at *; omega)))) | (with_reducible refine Below.drew ?_) | (with_reducible refine below_drewN ?_ _) | ((with_reducible refine Below.trans ?_ (Below.mono (by with_reducible assumption) ?hsz)); (case hsz => (first | omega | (simp; done) | (simp; omega) | (simp at *; omega))))))
        clear hnn
        (try clear d0 d1 g0 g1)
        obtain ⟨bs, d0, d1, g0, g1⟩ := id bx6
        rw [HM.out]
        go_wp2_with fail
        with_reducible refine (turned_any z _ ps _ _ (hp.keep hB6)).mono ?_
        rintro e w7 ⟨sT, rfl, hq7, hnn⟩
        rw [(turn_yes hok).2] at hq7
        rw [(turn_yes hok).1]
        have bx7 := (bx6).keep hnn
        have hB7 : Below w1.heap.size w1 w7 := by (repeat (first | (with_reducible assumption) | (with_reducible exact Below.refl _ _) | ((with_reducible refine Below.alloc ?_ ?hsz _); (case hsz => (first | omega | (simp; done) | (simp; omega) | (simp at *; omega)))) | ((with_reducible refine Below.setCell ?_ ?hsz _); (case hsz => (first | omega | (simp; done) | (simp; omega) | (simp at *; omega)))) | (with_reducible refine Below.drew ?_) | (with_reducible refine below_drewN ?_ _) | ((with_reducible refine Below.trans ?_ (Below.mono (by with_reducible assumption) ?hsz)); (case hsz => (first | omega | (simp; done) | (simp; omega) | (simp at *; omega))))))
        clear hnn
        (try clear d0 d1 g0 g1)
        obtain ⟨bs, d0, d1, g0, g1⟩ := id bx7
        go_wp2_with fail
        with_reducible refine (holdsOk_any z _ _ (ps.map turnP) xs _ _ _ hq7 (hx.keep hB7)).mono ?_
        rintro e w8 ⟨rfl, hnn⟩
        have bx8 := (bx7).keep hnn
        have hB8 : Below w1.heap.size w1 w8 := by (repeat (first | (with_reducible assumption) | (with_reducible exact Below.refl _ _) | ((with_reducible refine Below.alloc ?_ ?hsz _); (case hsz => (first | omega | (simp; done) | (simp; omega) | (simp at *; omega)))) | ((with_reducible refine Below.setCell ?_ ?hsz _); (case hsz => (first | omega | (simp; done) | (simp; omega) | (simp at *; omega)))) | (with_reducible refine Below.drew ?_) | (with_reducible refine below_drewN ?_ _) | ((with_reducible refine Below.trans ?_ (Below.mono (by with_reducible assumption) ?hsz)); (case hsz => (first | omega | (simp; done) | (simp; omega) | (simp at *; omega))))))
        clear hnn
        (try clear d0 d1 g0 g1)
        obtain ⟨bs, d0, d1, g0, g1⟩ := id bx8
        rw [HT.out]
        go_wp2
        (go_ret; exact ⟨rfl, hBw1.trans (Below.mono (by with_reducible assumption) hBw1.size)⟩)
  · have hok' : netOkB z ps = false := by simpa using hok
    have hb0 : holdsB z ps xs = false := by simp [holdsB, flowOkB, hok']
    go_wp2_with fail
    with_reducible refine (alive_any _).mono ?_
    rintro e w5 ⟨rfl, hnn⟩
    have bx5 := (bx4).keep hnn
    have hB5 : Below w1.heap.size w1 w5 := by (repeat (first | (with_reducible assumption) | (with_reducible exact Below.refl _ _) | ((with_reducible refine Below.alloc ?_ ?hsz _); (case hsz => (first | omega | (simp; done) | (simp; omega) | (simp at *; omega)))) | ((with_reducible refine Below.setCell ?_ ?hsz _); (case hsz => (first | omega | (simp; done) | (simp; omega) | (simp at *; omega)))) | (with_reducible refine Below.drew ?_) | (with_reducible refine below_drewN ?_ _) | ((with_reducible refine Below.trans ?_ (Below.mono (by with_reducible assumption) ?hsz)); (case hsz => (first | omega | (simp; done) | (simp; omega) | (simp at *; omega))))))
    clear hnn
    (try clear d0 d1 g0 g1)
    obtain ⟨bs, d0, d1, g0, g1⟩ := id bx5
    go_wp2
    (go_ret; exact ⟨rfl, hBw1.trans (Below.mono (by with_reducible assumption) hBw1.size)⟩)

set_option maxRecDepth 100000 in
theorem contract (H : Type) (enc : TypeId × Value → H) (W : World) (base : Nat) (args : Array Value) (ds gs : List (DataW H)) (before : List MemPlace)
    (hval : ∀ (j : Nat) t v, Try.f6.params[j]? = some t → args[j]? = some v → Value.okWide Try.prog W .any base t v)
    (hW : DataW.Whole enc Try.prog Try.f6.params.toList Rows.fnHoldsOkSpec.vars false W args.toList ds gs before) :
    Calls Try.prog 6 args W fun e W' => ∃ v, e = .returned v ∧ Rows.fnHoldsOkSpec.post enc Try.prog Try.f6 false true false false W args v W' := by
  have hW' := hW
  obtain ⟨p, q, hA0, hV, rfl, hfz, hnd⟩ := hW
  have hA : DataW.TrodAll enc Try.prog W 0 (fun _ => true) true Try.f6.params.toList args.toList ds p := hA0
  rw [Try.params6] at hA hval
  obtain ⟨u0, us0, d0, ds0, p0, q0, hargs, rfl, rfl, g0, k0⟩ := trodAll_cons hA
  obtain ⟨rfl, rfl, rfl⟩ := trodAll_nil k0
  obtain rfl : args = #[u0] := by cases args; simp_all
  obtain ⟨rfl, rfl⟩ := trodVars_none hV
  obtain ⟨m0, e0⟩ := g0
  obtain ⟨s0, l0, f0, hh0⟩ := open_arg_bytes e0
  have f0' := one_of_cells Try.underlying34 (hval 0 _ _ rfl rfl) f0
  subst f0'
  refine (walk _ l0 W hh0).mono fun e W' ⟨he, hb⟩ => ?_
  subst he
  exact ⟨_, rfl, law_post Try.kids Try.full (by rw [Try.params6]; decide) rfl rfl Try.underlying4 hW' rfl rfl rfl hb⟩

set_option maxRecDepth 100000 in
theorem lifted (os : Os) (started : os.Started) (H : Type) (enc : TypeId × Value → H) :
    ReturnsInHanded {} Try.checked os 6 .any (Rows.fnHoldsOkSpec.pre6 enc Try.prog Try.f6 Rows.fnHoldsOkRow.domain false) (Rows.fnHoldsOkSpec.post enc Try.prog Try.f6 false true false false) := by
  refine returnsInHanded_of_change (C := Try.checked) Try.own started (by kernel_rfl) Try.func6
    (ChangeSpec.witness6 (enc := enc) (C := Try.checked) false ⟨#[], #[.slice none 0 0], []⟩ 8 (by kernel_rfl) (by kernel_rfl) (by kernel_rfl) (by kernel_rfl)) ?_
  intro W base args ds gs before hval0 hW _ _
  exact contract H enc W base args ds gs before hval0 hW

theorem proved : Rows.FnHoldsOkSaid :=
  OpenClaim.holds_of_wide 6 Try.f6 rfl rfl rfl rfl rfl rfl rfl ⟨rfl, rfl, rfl, rfl, rfl⟩ rfl rfl rfl rfl rfl (by kernel_rfl) Try.func6 (by kernel_rfl)
    (of_decide_eq_true (by kernel_rfl)) (by unfold Func.isWrapper; first | (rw [if_pos (by decide +kernel)]; kernel_rfl) | (rw [if_neg (by decide +kernel)]; exact ⟨rfl, rfl⟩))
    (fun os started H enc _ => lifted os started H enc)

end Go.Proofs.Ytlebamdgcfhdaaa.lawHoldsOk
