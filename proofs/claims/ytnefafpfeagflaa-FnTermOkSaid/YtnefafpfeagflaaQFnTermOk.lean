/- FnTermOk: for every code the law holds: the program's TermOk answers as the model; a pipe that holds nothing is a term; no marks are none; and a term of fewer than MaxPipes pipes with a further pipe behind it, and MarkBeside, is one. No condition. -/
import Derived.Test.YtnefafpfeagflaaHD
import Derived.Test.YtnefafpfeagflaaAS
namespace Go.Proofs.Ytnefafpfeagflaa.lawTermOk
open Go.ChangeShapes Go.WideShapes Go.ChangeAt Go.RowKit Go.Deep Go.Joins

set_option maxHeartbeats 4000000 in
set_option maxRecDepth 20000 in
theorem walk (v : Value) (n : Nat) (w : World) (h : ArgBytes w v n) :
    Calls Try.prog 3 #[v] w fun e w' => e = .returned (.bool true) ∧ Below w.heap.size w w' := by
  obtain ⟨j0, hj0, hy0, hy1, hy2⟩ := info_parts mark_info
  obtain ⟨A, c, rfl, hc1, hc2, -⟩ := id h
  unfold maxLen at hc2
  by_cases hbig : 1048576 < n
  · go_enter Try.func3, Try.ntmps3
    go_wp2
    go_ret
    exact ⟨rfl, by (repeat (first | (with_reducible assumption) | (with_reducible exact Below.refl _ _) | ((with_reducible refine Below.alloc ?_ ?hsz _); (case hsz => (first | omega | (simp; done) | (simp; omega) | (simp at *; omega)))) | ((with_reducible refine Below.setCell ?_ ?hsz _); (case hsz => (first | omega | (simp; done) | (simp; omega) | (simp at *; omega)))) | (with_reducible refine Below.drew ?_) | (with_reducible refine below_drewN ?_ _) | ((with_reducible refine Below.trans ?_ (Below.mono (by with_reducible assumption) ?hsz)); (case hsz => (first | omega | (simp; done) | (simp; omega) | (simp at *; omega))))))⟩
  go_enter Try.func3, Try.ntmps3
  go_wp2_with fail
  with_reducible refine (drawTermOk_any _ n _ (h.keep (by (repeat (first | (with_reducible assumption) | (with_reducible exact Below.refl _ _) | ((with_reducible refine Below.alloc ?_ ?hsz _); (case hsz => (first | omega | (simp; done) | (simp; omega) | (simp at *; omega)))) | ((with_reducible refine Below.setCell ?_ ?hsz _); (case hsz => (first | omega | (simp; done) | (simp; omega) | (simp at *; omega)))) | (with_reducible refine Below.drew ?_) | (with_reducible refine below_drewN ?_ _) | ((with_reducible refine Below.trans ?_ (Below.mono (by with_reducible assumption) ?hsz)); (case hsz => (first | omega | (simp; done) | (simp; omega) | (simp at *; omega))))))))).mono ?_
  rintro e w1 ⟨r, ts, rfl, hm, hl, hBw0⟩
  have hBw1 : Below w.heap.size w w1 := by (repeat (first | (with_reducible assumption) | (with_reducible exact Below.refl _ _) | ((with_reducible refine Below.alloc ?_ ?hsz _); (case hsz => (first | omega | (simp; done) | (simp; omega) | (simp at *; omega)))) | ((with_reducible refine Below.setCell ?_ ?hsz _); (case hsz => (first | omega | (simp; done) | (simp; omega) | (simp at *; omega)))) | (with_reducible refine Below.drew ?_) | (with_reducible refine below_drewN ?_ _) | ((with_reducible refine Below.trans ?_ (Below.mono (by with_reducible assumption) ?hsz)); (case hsz => (first | omega | (simp; done) | (simp; omega) | (simp at *; omega))))))
  clear h hc1 hc2 hbig hBw0
  obtain ⟨A1, c1, rfl, hk1, hk2, hsm, hcell⟩ := hm.form
  have HC := Lib.hid hcell
  clear hcell
  unfold maxLen at hk2
  have hB1 : Below w1.heap.size w1 w1 := Below.refl _ _
  obtain ⟨l, hlq⟩ : ∃ l, ts.length = l := ⟨_, rfl⟩
  have HL := Lib.hid hlq
  rw [hlq] at hm hk1 hsm hl ⊢
  clear hlq
  go_wp2_with fail
  with_reducible refine (termOk_any _ ts _ _ (hm.keep hB1)).mono ?_
  rintro e w2 ⟨rfl, hnn⟩
  have hB2 : Below w1.heap.size w1 w2 := by (repeat (first | (with_reducible assumption) | (with_reducible exact Below.refl _ _) | ((with_reducible refine Below.alloc ?_ ?hsz _); (case hsz => (first | omega | (simp; done) | (simp; omega) | (simp at *; omega)))) | ((with_reducible refine Below.setCell ?_ ?hsz _); (case hsz => (first | omega | (simp; done) | (simp; omega) | (simp at *; omega)))) | (with_reducible refine Below.drew ?_) | (with_reducible refine below_drewN ?_ _) | ((with_reducible refine Below.trans ?_ (Below.mono (by with_reducible assumption) ?hsz)); (case hsz => (first | omega | (simp; done) | (simp; omega) | (simp at *; omega))))))
  have hzw2 := (hB2).size
  have hnw2 := hnn
  clear hnn
  go_wp2_with fail
  with_reducible refine (specTermOk_any _ ts _ _ (hm.keep hB2)).mono ?_
  rintro e w3 ⟨rfl, hnn⟩
  have hB3 : Below w1.heap.size w1 w3 := by (repeat (first | (with_reducible assumption) | (with_reducible exact Below.refl _ _) | ((with_reducible refine Below.alloc ?_ ?hsz _); (case hsz => (first | omega | (simp; done) | (simp; omega) | (simp at *; omega)))) | ((with_reducible refine Below.setCell ?_ ?hsz _); (case hsz => (first | omega | (simp; done) | (simp; omega) | (simp at *; omega)))) | (with_reducible refine Below.drew ?_) | (with_reducible refine below_drewN ?_ _) | ((with_reducible refine Below.trans ?_ (Below.mono (by with_reducible assumption) ?hsz)); (case hsz => (first | omega | (simp; done) | (simp; omega) | (simp at *; omega))))))
  have hzw3 := (hB3).size
  have hnw3 := hnn
  clear hnn
  have hzz := hB3.size
  have hl0 : (w3.alloc (.cells #[] 27)).ownsRow w1.heap.size 27 3 (.slice (some ⟨w3.heap.size, 0, none⟩) 0 0) 0 [] := lit_own0 hzz (heap_alloc_new _ _)
  have hsrc := (hm.keep (w' := w3.alloc (.cells #[] 27)) (by (repeat (first | (with_reducible assumption) | (with_reducible exact Below.refl _ _) | ((with_reducible refine Below.alloc ?_ ?hsz _); (case hsz => (first | omega | (simp; done) | (simp; omega) | (simp at *; omega)))) | ((with_reducible refine Below.setCell ?_ ?hsz _); (case hsz => (first | omega | (simp; done) | (simp; omega) | (simp at *; omega)))) | (with_reducible refine Below.drew ?_) | (with_reducible refine below_drewN ?_ _) | ((with_reducible refine Below.trans ?_ (Below.mono (by with_reducible assumption) ?hsz)); (case hsz => (first | omega | (simp; done) | (simp; omega) | (simp at *; omega)))))))).src
  rw [HL.out] at hsrc
  have hP := Lib.hid (fun h h7 => more_term (ts := ts) h h7)
  obtain ⟨p, hp⟩ : ∃ p, pipesN ts = p := ⟨_, rfl⟩
  rw [hp] at hP
  have HP := Lib.hid hp
  clear hp
  obtain ⟨b, hb⟩ : ∃ b, termB ts = b := ⟨_, rfl⟩
  rw [hb]
  have HB := Lib.hid hb
  have ht1 : ∀ W : World, Below w1.heap.size w1 W → Marks (W.alloc (.cells #[.int .i64 0, .int .i64 0, .int .i64 0] 27)) w1.heap.size (.slice (some ⟨W.heap.size, 0, none⟩) 1 1) [⟨0, 0, 0⟩] := fun W hW =>
    ⟨World.ownsRow_lit (e := 27) (base := w1.heap.size) (size := 3) W #[.int .i64 0, .int .i64 0, .int .i64 0] 1 hW.size (by simp [maxLen]) rfl, by simp [small]⟩
  have ht0 : ∀ W : World, Below w1.heap.size w1 W → Marks (W.alloc (.cells #[] 27)) w1.heap.size (.slice (some ⟨W.heap.size, 0, none⟩) 0 0) [] := fun W hW => ⟨lit_own0 hW.size (heap_alloc_new _ _), by simp [small]⟩
  have e1 : termB [⟨0, 0, 0⟩] = true := by decide
  have e0 : termB [] = false := by decide
  clear hb
  cases b with
  | false =>
    go_wp2_with (first
      | (at_builtin
         (refine wpList_append_src rfl _ _ 23 rfl w1.heap.size 27 j0 _ 3 24 Try.underlying23 hj0 hy0 hy1 hy2 rfl (by omega) _ _ 0 l [] _ rfl rfl hl0 hsrc (by unfold maxLen; omega) (by omega) (by (first | omega | (simp; done) | (simp; omega) | (simp at *; omega))) ?_)
         intro r7 w7 hown7 hg7 hat7
         go_must (rw [Nat.zero_add, List.nil_append] at hown7))
      | (at_builtin
         go_must (refine wpList_append_src rfl _ _ 23 rfl w1.heap.size 27 j0 _ 3 24 Try.underlying23 hj0 hy0 hy1 hy2 rfl (by omega) _ _ l 2 _ [.int .i64 0, .int .i64 2, .int .i64 1, .int .i64 2, .int .i64 0, .int .i64 0] rfl rfl (own_keep hown7 (Nat.le_refl _) (by (repeat (first | (with_reducible assumption) | (with_reducible exact Below.refl _ _) | ((with_reducible refine Below.alloc ?_ ?hsz _); (case hsz => (first | omega | (simp; done) | (simp; omega) | (simp at *; omega)))) | ((with_reducible refine Below.setCell ?_ ?hsz _); (case hsz => (first | omega | (simp; done) | (simp; omega) | (simp at *; omega)))) | (with_reducible refine Below.drew ?_) | (with_reducible refine below_drewN ?_ _) | ((with_reducible refine Below.trans ?_ (Below.mono (by with_reducible assumption) ?hsz)); (case hsz => (first | omega | (simp; done) | (simp; omega) | (simp at *; omega)))))))) (lit_src (heap_alloc_new w7 (.cells #[.int .i64 0, .int .i64 2, .int .i64 1, .int .i64 2, .int .i64 0, .int .i64 0] 27)) rfl (by simp [Value.oneCell'])) (by unfold maxLen; omega) (by omega) (by have := hg7.size; simp at this; (first | omega | (simp; done) | (simp; omega) | (simp at *; omega))) ?_)
         intro r8 w8 hown8 hg8 hat8))
    have hb7 : Below w1.heap.size w1 w7 := Below.grown (w := w3.alloc (.cells #[] 27)) (by (repeat (first | (with_reducible assumption) | (with_reducible exact Below.refl _ _) | ((with_reducible refine Below.alloc ?_ ?hsz _); (case hsz => (first | omega | (simp; done) | (simp; omega) | (simp at *; omega)))) | ((with_reducible refine Below.setCell ?_ ?hsz _); (case hsz => (first | omega | (simp; done) | (simp; omega) | (simp at *; omega)))) | (with_reducible refine Below.drew ?_) | (with_reducible refine below_drewN ?_ _) | ((with_reducible refine Below.trans ?_ (Below.mono (by with_reducible assumption) ?hsz)); (case hsz => (first | omega | (simp; done) | (simp; omega) | (simp at *; omega))))))) hg7 (by (first | omega | (simp; done) | (simp; omega) | (simp at *; omega))) (fun q hq => (hl0.lt q hq).1)
    have hz7 := hb7.size
    have hB8 : Below w1.heap.size w1 w8 := Below.grown (w := w7.alloc (.cells #[.int .i64 0, .int .i64 2, .int .i64 1, .int .i64 2, .int .i64 0, .int .i64 0] 27)) (by (repeat (first | (with_reducible assumption) | (with_reducible exact Below.refl _ _) | ((with_reducible refine Below.alloc ?_ ?hsz _); (case hsz => (first | omega | (simp; done) | (simp; omega) | (simp at *; omega)))) | ((with_reducible refine Below.setCell ?_ ?hsz _); (case hsz => (first | omega | (simp; done) | (simp; omega) | (simp at *; omega)))) | (with_reducible refine Below.drew ?_) | (with_reducible refine below_drewN ?_ _) | ((with_reducible refine Below.trans ?_ (Below.mono (by with_reducible assumption) ?hsz)); (case hsz => (first | omega | (simp; done) | (simp; omega) | (simp at *; omega))))))) hg8 (by (first | omega | (simp; done) | (simp; omega) | (simp at *; omega))) (fun q hq => (hown7.lt q hq).1)
    have hM8 : Marks w8 w1.heap.size r8 (ts ++ [⟨0, 2, 1⟩, ⟨2, 0, 0⟩]) := Marks.app (us := [⟨0, 2, 1⟩, ⟨2, 0, 0⟩]) (by simpa [Mk.cells] using hown8) (by simp; exact HL.out.symm) (by unfold small; omega)
    clear hown7 hg7 hat7 hown8 hg8 hat8 hb7 hz7 hl0 hsrc
    have hz8 := hB8.size
    obtain ⟨A8, c8, rfl, -, -, -, -⟩ := hM8.form
    obtain ⟨l8, hl8⟩ : ∃ l8, (ts ++ [(⟨0, 2, 1⟩ : Mk), ⟨2, 0, 0⟩]).length = l8 := ⟨_, rfl⟩
    rw [hl8] at hM8 ⊢
    clear hl8
    go_wp2_with fail
    with_reducible refine (termOk_any _ _ _ _ (ht1 w8 hB8)).mono ?_
    rintro e w9 ⟨rfl, hnn⟩
    have hB9 : Below w1.heap.size w1 w9 := by (repeat (first | (with_reducible assumption) | (with_reducible exact Below.refl _ _) | ((with_reducible refine Below.alloc ?_ ?hsz _); (case hsz => (first | omega | (simp; done) | (simp; omega) | (simp at *; omega)))) | ((with_reducible refine Below.setCell ?_ ?hsz _); (case hsz => (first | omega | (simp; done) | (simp; omega) | (simp at *; omega)))) | (with_reducible refine Below.drew ?_) | (with_reducible refine below_drewN ?_ _) | ((with_reducible refine Below.trans ?_ (Below.mono (by with_reducible assumption) ?hsz)); (case hsz => (first | omega | (simp; done) | (simp; omega) | (simp at *; omega))))))
    have hzw9 := (hB9).size
    have hnw9 := hnn
    clear hnn
    rw [e1]
    go_wp2_with fail
    with_reducible refine (termOk_any _ _ _ _ (ht0 w9 hB9)).mono ?_
    rintro e w10 ⟨rfl, hnn⟩
    have hB10 : Below w1.heap.size w1 w10 := by (repeat (first | (with_reducible assumption) | (with_reducible exact Below.refl _ _) | ((with_reducible refine Below.alloc ?_ ?hsz _); (case hsz => (first | omega | (simp; done) | (simp; omega) | (simp at *; omega)))) | ((with_reducible refine Below.setCell ?_ ?hsz _); (case hsz => (first | omega | (simp; done) | (simp; omega) | (simp at *; omega)))) | (with_reducible refine Below.drew ?_) | (with_reducible refine below_drewN ?_ _) | ((with_reducible refine Below.trans ?_ (Below.mono (by with_reducible assumption) ?hsz)); (case hsz => (first | omega | (simp; done) | (simp; omega) | (simp at *; omega))))))
    have hzw10 := (hB10).size
    have hnw10 := hnn
    clear hnn
    rw [e0]
    go_wp2_with fail
    with_reducible refine (alive_any _).mono ?_
    rintro e w11 ⟨rfl, hnn⟩
    have hB11 : Below w1.heap.size w1 w11 := by (repeat (first | (with_reducible assumption) | (with_reducible exact Below.refl _ _) | ((with_reducible refine Below.alloc ?_ ?hsz _); (case hsz => (first | omega | (simp; done) | (simp; omega) | (simp at *; omega)))) | ((with_reducible refine Below.setCell ?_ ?hsz _); (case hsz => (first | omega | (simp; done) | (simp; omega) | (simp at *; omega)))) | (with_reducible refine Below.drew ?_) | (with_reducible refine below_drewN ?_ _) | ((with_reducible refine Below.trans ?_ (Below.mono (by with_reducible assumption) ?hsz)); (case hsz => (first | omega | (simp; done) | (simp; omega) | (simp at *; omega))))))
    have hzw11 := (hB11).size
    have hnw11 := hnn
    clear hnn
    go_wp2
    (go_ret; exact ⟨rfl, hBw1.trans (Below.mono (by with_reducible assumption) hBw1.size)⟩)
  | true =>
    go_wp2_with (first
      | (at_builtin
         (refine wpList_append_src rfl _ _ 23 rfl w1.heap.size 27 j0 _ 3 24 Try.underlying23 hj0 hy0 hy1 hy2 rfl (by omega) _ _ 0 l [] _ rfl rfl hl0 hsrc (by unfold maxLen; omega) (by omega) (by (first | omega | (simp; done) | (simp; omega) | (simp at *; omega))) ?_)
         intro r7 w7 hown7 hg7 hat7
         go_must (rw [Nat.zero_add, List.nil_append] at hown7))
      | (at_builtin
         go_must (refine wpList_append_src rfl _ _ 23 rfl w1.heap.size 27 j0 _ 3 24 Try.underlying23 hj0 hy0 hy1 hy2 rfl (by omega) _ _ l 2 _ [.int .i64 0, .int .i64 2, .int .i64 1, .int .i64 2, .int .i64 0, .int .i64 0] rfl rfl (own_keep hown7 (Nat.le_refl _) (by (repeat (first | (with_reducible assumption) | (with_reducible exact Below.refl _ _) | ((with_reducible refine Below.alloc ?_ ?hsz _); (case hsz => (first | omega | (simp; done) | (simp; omega) | (simp at *; omega)))) | ((with_reducible refine Below.setCell ?_ ?hsz _); (case hsz => (first | omega | (simp; done) | (simp; omega) | (simp at *; omega)))) | (with_reducible refine Below.drew ?_) | (with_reducible refine below_drewN ?_ _) | ((with_reducible refine Below.trans ?_ (Below.mono (by with_reducible assumption) ?hsz)); (case hsz => (first | omega | (simp; done) | (simp; omega) | (simp at *; omega)))))))) (lit_src (heap_alloc_new w7 (.cells #[.int .i64 0, .int .i64 2, .int .i64 1, .int .i64 2, .int .i64 0, .int .i64 0] 27)) rfl (by simp [Value.oneCell'])) (by unfold maxLen; omega) (by omega) (by have := hg7.size; simp at this; (first | omega | (simp; done) | (simp; omega) | (simp at *; omega))) ?_)
         intro r8 w8 hown8 hg8 hat8))
    have hb7 : Below w1.heap.size w1 w7 := Below.grown (w := w3.alloc (.cells #[] 27)) (by (repeat (first | (with_reducible assumption) | (with_reducible exact Below.refl _ _) | ((with_reducible refine Below.alloc ?_ ?hsz _); (case hsz => (first | omega | (simp; done) | (simp; omega) | (simp at *; omega)))) | ((with_reducible refine Below.setCell ?_ ?hsz _); (case hsz => (first | omega | (simp; done) | (simp; omega) | (simp at *; omega)))) | (with_reducible refine Below.drew ?_) | (with_reducible refine below_drewN ?_ _) | ((with_reducible refine Below.trans ?_ (Below.mono (by with_reducible assumption) ?hsz)); (case hsz => (first | omega | (simp; done) | (simp; omega) | (simp at *; omega))))))) hg7 (by (first | omega | (simp; done) | (simp; omega) | (simp at *; omega))) (fun q hq => (hl0.lt q hq).1)
    have hz7 := hb7.size
    have hB8 : Below w1.heap.size w1 w8 := Below.grown (w := w7.alloc (.cells #[.int .i64 0, .int .i64 2, .int .i64 1, .int .i64 2, .int .i64 0, .int .i64 0] 27)) (by (repeat (first | (with_reducible assumption) | (with_reducible exact Below.refl _ _) | ((with_reducible refine Below.alloc ?_ ?hsz _); (case hsz => (first | omega | (simp; done) | (simp; omega) | (simp at *; omega)))) | ((with_reducible refine Below.setCell ?_ ?hsz _); (case hsz => (first | omega | (simp; done) | (simp; omega) | (simp at *; omega)))) | (with_reducible refine Below.drew ?_) | (with_reducible refine below_drewN ?_ _) | ((with_reducible refine Below.trans ?_ (Below.mono (by with_reducible assumption) ?hsz)); (case hsz => (first | omega | (simp; done) | (simp; omega) | (simp at *; omega))))))) hg8 (by (first | omega | (simp; done) | (simp; omega) | (simp at *; omega))) (fun q hq => (hown7.lt q hq).1)
    have hM8 : Marks w8 w1.heap.size r8 (ts ++ [⟨0, 2, 1⟩, ⟨2, 0, 0⟩]) := Marks.app (us := [⟨0, 2, 1⟩, ⟨2, 0, 0⟩]) (by simpa [Mk.cells] using hown8) (by simp; exact HL.out.symm) (by unfold small; omega)
    clear hown7 hg7 hat7 hown8 hg8 hat8 hb7 hz7 hl0 hsrc
    have hz8 := hB8.size
    obtain ⟨A8, c8, rfl, -, -, -, -⟩ := hM8.form
    obtain ⟨l8, hl8⟩ : ∃ l8, (ts ++ [(⟨0, 2, 1⟩ : Mk), ⟨2, 0, 0⟩]).length = l8 := ⟨_, rfl⟩
    rw [hl8] at hM8 ⊢
    clear hl8
    go_wp2_with fail
    with_reducible refine (termOk_any _ _ _ _ (ht1 w8 hB8)).mono ?_
    rintro e w9 ⟨rfl, hnn⟩
    have hB9 : Below w1.heap.size w1 w9 := by (repeat (first | (with_reducible assumption) | (with_reducible exact Below.refl _ _) | ((with_reducible refine Below.alloc ?_ ?hsz _); (case hsz => (first | omega | (simp; done) | (simp; omega) | (simp at *; omega)))) | ((with_reducible refine Below.setCell ?_ ?hsz _); (case hsz => (first | omega | (simp; done) | (simp; omega) | (simp at *; omega)))) | (with_reducible refine Below.drew ?_) | (with_reducible refine below_drewN ?_ _) | ((with_reducible refine Below.trans ?_ (Below.mono (by with_reducible assumption) ?hsz)); (case hsz => (first | omega | (simp; done) | (simp; omega) | (simp at *; omega))))))
    have hzw9 := (hB9).size
    have hnw9 := hnn
    clear hnn
    have hM9 := hM8.keep (w' := w9) (by (repeat (first | (with_reducible assumption) | (with_reducible exact Below.refl _ _) | ((with_reducible refine Below.alloc ?_ ?hsz _); (case hsz => (first | omega | (simp; done) | (simp; omega) | (simp at *; omega)))) | ((with_reducible refine Below.setCell ?_ ?hsz _); (case hsz => (first | omega | (simp; done) | (simp; omega) | (simp at *; omega)))) | (with_reducible refine Below.drew ?_) | (with_reducible refine below_drewN ?_ _) | ((with_reducible refine Below.trans ?_ (Below.mono (by with_reducible assumption) ?hsz)); (case hsz => (first | omega | (simp; done) | (simp; omega) | (simp at *; omega)))))))
    rw [e1]
    go_wp2_with fail
    with_reducible refine (termOk_any _ _ _ _ (ht0 w9 hB9)).mono ?_
    rintro e w10 ⟨rfl, hnn⟩
    have hB10 : Below w1.heap.size w1 w10 := by (repeat (first | (with_reducible assumption) | (with_reducible exact Below.refl _ _) | ((with_reducible refine Below.alloc ?_ ?hsz _); (case hsz => (first | omega | (simp; done) | (simp; omega) | (simp at *; omega)))) | ((with_reducible refine Below.setCell ?_ ?hsz _); (case hsz => (first | omega | (simp; done) | (simp; omega) | (simp at *; omega)))) | (with_reducible refine Below.drew ?_) | (with_reducible refine below_drewN ?_ _) | ((with_reducible refine Below.trans ?_ (Below.mono (by with_reducible assumption) ?hsz)); (case hsz => (first | omega | (simp; done) | (simp; omega) | (simp at *; omega))))))
    have hzw10 := (hB10).size
    have hnw10 := hnn
    clear hnn
    have hM10 := hM9.keep (w' := w10) (by (repeat (first | (with_reducible assumption) | (with_reducible exact Below.refl _ _) | ((with_reducible refine Below.alloc ?_ ?hsz _); (case hsz => (first | omega | (simp; done) | (simp; omega) | (simp at *; omega)))) | ((with_reducible refine Below.setCell ?_ ?hsz _); (case hsz => (first | omega | (simp; done) | (simp; omega) | (simp at *; omega)))) | (with_reducible refine Below.drew ?_) | (with_reducible refine below_drewN ?_ _) | ((with_reducible refine Below.trans ?_ (Below.mono (by with_reducible assumption) ?hsz)); (case hsz => (first | omega | (simp; done) | (simp; omega) | (simp at *; omega)))))))
    rw [e0]
    go_wp2_with fail
    with_reducible refine (pipesIn_any _ ts _ _ (hm.keep hB10)).mono ?_
    rintro e w11 ⟨rfl, hnn⟩
    have hB11 : Below w1.heap.size w1 w11 := by (repeat (first | (with_reducible assumption) | (with_reducible exact Below.refl _ _) | ((with_reducible refine Below.alloc ?_ ?hsz _); (case hsz => (first | omega | (simp; done) | (simp; omega) | (simp at *; omega)))) | ((with_reducible refine Below.setCell ?_ ?hsz _); (case hsz => (first | omega | (simp; done) | (simp; omega) | (simp at *; omega)))) | (with_reducible refine Below.drew ?_) | (with_reducible refine below_drewN ?_ _) | ((with_reducible refine Below.trans ?_ (Below.mono (by with_reducible assumption) ?hsz)); (case hsz => (first | omega | (simp; done) | (simp; omega) | (simp at *; omega))))))
    have hzw11 := (hB11).size
    have hnw11 := hnn
    clear hnn
    have hM11 := hM10.keep hnw11
    rw [HP.out]
    by_cases hp7 : 7 ≤ p
    · go_wp2_with fail
      with_reducible refine (alive_any _).mono ?_
      rintro e w12 ⟨rfl, hnn⟩
      have hB12 : Below w1.heap.size w1 w12 := by (repeat (first | (with_reducible assumption) | (with_reducible exact Below.refl _ _) | ((with_reducible refine Below.alloc ?_ ?hsz _); (case hsz => (first | omega | (simp; done) | (simp; omega) | (simp at *; omega)))) | ((with_reducible refine Below.setCell ?_ ?hsz _); (case hsz => (first | omega | (simp; done) | (simp; omega) | (simp at *; omega)))) | (with_reducible refine Below.drew ?_) | (with_reducible refine below_drewN ?_ _) | ((with_reducible refine Below.trans ?_ (Below.mono (by with_reducible assumption) ?hsz)); (case hsz => (first | omega | (simp; done) | (simp; omega) | (simp at *; omega))))))
      have hzw12 := (hB12).size
      have hnw12 := hnn
      clear hnn
      go_wp2
      (go_ret; exact ⟨rfl, hBw1.trans (Below.mono (by with_reducible assumption) hBw1.size)⟩)
    · have e8 := hP.out HB.out (by omega)
      go_wp2_with fail
      with_reducible refine (termOk_any _ _ _ _ hM11).mono ?_
      rintro e w12 ⟨rfl, hnn⟩
      have hB12 : Below w1.heap.size w1 w12 := by (repeat (first | (with_reducible assumption) | (with_reducible exact Below.refl _ _) | ((with_reducible refine Below.alloc ?_ ?hsz _); (case hsz => (first | omega | (simp; done) | (simp; omega) | (simp at *; omega)))) | ((with_reducible refine Below.setCell ?_ ?hsz _); (case hsz => (first | omega | (simp; done) | (simp; omega) | (simp at *; omega)))) | (with_reducible refine Below.drew ?_) | (with_reducible refine below_drewN ?_ _) | ((with_reducible refine Below.trans ?_ (Below.mono (by with_reducible assumption) ?hsz)); (case hsz => (first | omega | (simp; done) | (simp; omega) | (simp at *; omega))))))
      have hzw12 := (hB12).size
      have hnw12 := hnn
      clear hnn
      rw [e8]
      go_wp2_with fail
      with_reducible refine (alive_any _).mono ?_
      rintro e w13 ⟨rfl, hnn⟩
      have hB13 : Below w1.heap.size w1 w13 := by (repeat (first | (with_reducible assumption) | (with_reducible exact Below.refl _ _) | ((with_reducible refine Below.alloc ?_ ?hsz _); (case hsz => (first | omega | (simp; done) | (simp; omega) | (simp at *; omega)))) | ((with_reducible refine Below.setCell ?_ ?hsz _); (case hsz => (first | omega | (simp; done) | (simp; omega) | (simp at *; omega)))) | (with_reducible refine Below.drew ?_) | (with_reducible refine below_drewN ?_ _) | ((with_reducible refine Below.trans ?_ (Below.mono (by with_reducible assumption) ?hsz)); (case hsz => (first | omega | (simp; done) | (simp; omega) | (simp at *; omega))))))
      have hzw13 := (hB13).size
      have hnw13 := hnn
      clear hnn
      go_wp2
      (go_ret; exact ⟨rfl, hBw1.trans (Below.mono (by with_reducible assumption) hBw1.size)⟩)

set_option maxRecDepth 100000 in
theorem contract (H : Type) (enc : TypeId × Value → H) (W : World) (base : Nat) (args : Array Value) (ds gs : List (DataW H)) (before : List MemPlace)
    (hval : ∀ (j : Nat) t v, Try.f3.params[j]? = some t → args[j]? = some v → Value.okWide Try.prog W .any base t v)
    (hW : DataW.Whole enc Try.prog Try.f3.params.toList Rows.fnTermOkSpec.vars false W args.toList ds gs before) :
    Calls Try.prog 3 args W fun e W' => ∃ v, e = .returned v ∧ Rows.fnTermOkSpec.post enc Try.prog Try.f3 false true false false W args v W' := by
  have hW' := hW
  obtain ⟨p, q, hA0, hV, rfl, hfz, hnd⟩ := hW
  have hA : DataW.TrodAll enc Try.prog W 0 (fun _ => true) true Try.f3.params.toList args.toList ds p := hA0
  rw [Try.params3] at hA hval
  obtain ⟨u0, us0, d0, ds0, p0, q0, hargs, rfl, rfl, g0, k0⟩ := trodAll_cons hA
  obtain ⟨rfl, rfl, rfl⟩ := trodAll_nil k0
  obtain rfl : args = #[u0] := by cases args; simp_all
  obtain ⟨rfl, rfl⟩ := trodVars_none hV
  obtain ⟨m0, e0⟩ := g0
  obtain ⟨s0, l0, f0, hh0⟩ := open_arg_bytes e0
  have f0' := one_of_cells Try.underlying22 (hval 0 _ _ rfl rfl) f0
  subst f0'
  refine (walk _ l0 W hh0).mono fun e W' ⟨he, hb⟩ => ?_
  subst he
  exact ⟨_, rfl, law_post Try.kids Try.full (by rw [Try.params3]; decide) rfl rfl Try.underlying4 hW' rfl rfl rfl hb⟩

set_option maxRecDepth 100000 in
theorem lifted (os : Os) (started : os.Started) (H : Type) (enc : TypeId × Value → H) :
    ReturnsInHanded {} Try.checked os 3 .any (Rows.fnTermOkSpec.pre6 enc Try.prog Try.f3 Rows.fnTermOkRow.domain false) (Rows.fnTermOkSpec.post enc Try.prog Try.f3 false true false false) := by
  refine returnsInHanded_of_change (C := Try.checked) Try.own started (by kernel_rfl) Try.func3
    (ChangeSpec.witness6 (enc := enc) (C := Try.checked) false ⟨#[], #[.slice none 0 0], []⟩ 8 (by kernel_rfl) (by kernel_rfl) (by kernel_rfl) (by kernel_rfl)) ?_
  intro W base args ds gs before hval0 hW _ _
  exact contract H enc W base args ds gs before hval0 hW

theorem proved : Rows.FnTermOkSaid :=
  OpenClaim.holds_of_wide 3 Try.f3 rfl rfl rfl rfl rfl rfl rfl ⟨rfl, rfl, rfl, rfl, rfl⟩ rfl rfl rfl rfl rfl (by kernel_rfl) Try.func3 (by kernel_rfl)
    (of_decide_eq_true (by kernel_rfl)) (by unfold Func.isWrapper; first | (rw [if_pos (by decide +kernel)]; kernel_rfl) | (rw [if_neg (by decide +kernel)]; exact ⟨rfl, rfl⟩))
    (fun os started H enc _ => lifted os started H enc)

end Go.Proofs.Ytnefafpfeagflaa.lawTermOk
