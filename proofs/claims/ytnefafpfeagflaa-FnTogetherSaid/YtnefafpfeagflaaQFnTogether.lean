/- FnTogether: for every code and all bytes more the law holds: of two terms what both carry is added with MarkBeside, and with MarkThen it is the lesser one, if these are terms; and the first costs are added with MarkThen. No condition. -/
import Derived.Test.YtnefafpfeagflaaHD
import Derived.Test.YtnefafpfeagflaaAX
import Derived.Test.YtnefafpfeagflaaAW
import Derived.Test.YtnefafpfeagflaaA7
namespace Go.Proofs.Ytnefafpfeagflaa.lawTogether
open Go.ChangeShapes Go.WideShapes Go.ChangeAt Go.RowKit Go.Deep Go.Joins

set_option maxHeartbeats 16000000 in
set_option maxRecDepth 20000 in
theorem walk (v v2 : Value) (n n2 : Nat) (w : World) (h : ArgBytes w v n) (h2 : ArgBytes w v2 n2) :
    Calls Try.prog 7 #[v, v2] w fun e w' => e = .returned (.bool true) ∧ Below w.heap.size w w' := by
  obtain ⟨j0, hj0, hy0, hy1, hy2⟩ := info_parts mark_info
  obtain ⟨A, c, rfl, hc1, hc2, -⟩ := id h
  obtain ⟨A2, c2, rfl, hd1, hd2, -⟩ := id h2
  unfold maxLen at hc2 hd2
  by_cases hbig : 1048576 < n
  · go_enter Try.func7, Try.ntmps7
    go_wp2
    go_ret
    exact ⟨rfl, by (repeat (first | (with_reducible assumption) | (with_reducible exact Below.refl _ _) | ((with_reducible refine Below.alloc ?_ ?hsz _); (case hsz => (first | omega | (simp; done) | (simp; omega) | (simp at *; omega)))) | ((with_reducible refine Below.setCell ?_ ?hsz _); (case hsz => (first | omega | (simp; done) | (simp; omega) | (simp at *; omega)))) | (with_reducible refine Below.drew ?_) | (with_reducible refine below_drewN ?_ _) | ((with_reducible refine Below.trans ?_ (Below.mono (by with_reducible assumption) ?hsz)); (case hsz => (first | omega | (simp; done) | (simp; omega) | (simp at *; omega))))))⟩
  by_cases hbig2 : 1048576 < n2
  · go_enter Try.func7, Try.ntmps7
    go_wp2
    go_ret
    exact ⟨rfl, by (repeat (first | (with_reducible assumption) | (with_reducible exact Below.refl _ _) | ((with_reducible refine Below.alloc ?_ ?hsz _); (case hsz => (first | omega | (simp; done) | (simp; omega) | (simp at *; omega)))) | ((with_reducible refine Below.setCell ?_ ?hsz _); (case hsz => (first | omega | (simp; done) | (simp; omega) | (simp at *; omega)))) | (with_reducible refine Below.drew ?_) | (with_reducible refine below_drewN ?_ _) | ((with_reducible refine Below.trans ?_ (Below.mono (by with_reducible assumption) ?hsz)); (case hsz => (first | omega | (simp; done) | (simp; omega) | (simp at *; omega))))))⟩
  go_enter Try.func7, Try.ntmps7
  go_wp2_with fail
  with_reducible refine (drawCarriesOf_any _ n _ (h.keep (by (repeat (first | (with_reducible assumption) | (with_reducible exact Below.refl _ _) | ((with_reducible refine Below.alloc ?_ ?hsz _); (case hsz => (first | omega | (simp; done) | (simp; omega) | (simp at *; omega)))) | ((with_reducible refine Below.setCell ?_ ?hsz _); (case hsz => (first | omega | (simp; done) | (simp; omega) | (simp at *; omega)))) | (with_reducible refine Below.drew ?_) | (with_reducible refine below_drewN ?_ _) | ((with_reducible refine Below.trans ?_ (Below.mono (by with_reducible assumption) ?hsz)); (case hsz => (first | omega | (simp; done) | (simp; omega) | (simp at *; omega))))))))).mono ?_
  rintro e w1 ⟨r, ts, rfl, hm, hl, hBw0⟩
  have hBw1 : Below w.heap.size w w1 := by (repeat (first | (with_reducible assumption) | (with_reducible exact Below.refl _ _) | ((with_reducible refine Below.alloc ?_ ?hsz _); (case hsz => (first | omega | (simp; done) | (simp; omega) | (simp at *; omega)))) | ((with_reducible refine Below.setCell ?_ ?hsz _); (case hsz => (first | omega | (simp; done) | (simp; omega) | (simp at *; omega)))) | (with_reducible refine Below.drew ?_) | (with_reducible refine below_drewN ?_ _) | ((with_reducible refine Below.trans ?_ (Below.mono (by with_reducible assumption) ?hsz)); (case hsz => (first | omega | (simp; done) | (simp; omega) | (simp at *; omega))))))
  have h2' := h2.keep hBw1
  clear h h2 hc1 hc2 hbig hBw0
  obtain ⟨A1, c1, rfl, hk1, hk2, hsm, -⟩ := hm.form
  unfold maxLen at hk2
  obtain ⟨l, hlq⟩ : ∃ l, ts.length = l := ⟨_, rfl⟩
  have HL := Lib.hid hlq
  rw [hlq] at hm hk1 hsm hl ⊢
  go_wp2_with fail
  with_reducible refine (drawCarriesOf_any _ n2 _ h2').mono ?_
  rintro e w2 ⟨r, us, rfl, hm2, hl2, hB2⟩
  have hzw2 := hB2.size
  have haw2 := hm.keep hB2
  clear h2' hd1 hd2 hbig2 hlq hm
  obtain ⟨A3, c3, rfl, hk3, hk4, hsm2, -⟩ := hm2.form
  unfold maxLen at hk4
  obtain ⟨l2, hlq⟩ : ∃ l, us.length = l := ⟨_, rfl⟩
  have HL2 := Lib.hid hlq
  rw [hlq] at hm2 hk3 hsm2 hl2 ⊢
  have hbw2 := hm2
  clear hlq hm2
  have hl0 : (w2.alloc (.cells #[] 27)).ownsRow w1.heap.size 27 3 (.slice (some ⟨w2.heap.size, 0, none⟩) 0 0) 0 [] := lit_own0 hzw2 (heap_alloc_new _ _)
  have hsa := (haw2.keep (w' := w2.alloc (.cells #[] 27)) (by (repeat (first | (with_reducible assumption) | (with_reducible exact Below.refl _ _) | ((with_reducible refine Below.alloc ?_ ?hsz _); (case hsz => (first | omega | (simp; done) | (simp; omega) | (simp at *; omega)))) | ((with_reducible refine Below.setCell ?_ ?hsz _); (case hsz => (first | omega | (simp; done) | (simp; omega) | (simp at *; omega)))) | (with_reducible refine Below.drew ?_) | (with_reducible refine below_drewN ?_ _) | ((with_reducible refine Below.trans ?_ (Below.mono (by with_reducible assumption) ?hsz)); (case hsz => (first | omega | (simp; done) | (simp; omega) | (simp at *; omega)))))))).src
  rw [HL.out] at hsa
  have hsb := fun W hW => (hbw2.keep (w' := W) hW).src
  rw [HL2.out] at hsb
  go_upto_region 6 with (first
    | (at_builtin
       (refine wpList_append_src rfl _ _ 23 rfl w1.heap.size 27 j0 _ 3 24 Try.underlying23 hj0 hy0 hy1 hy2 rfl (by omega) _ _ 0 l [] _ rfl rfl hl0 hsa (by unfold maxLen; omega) (by omega) (by (first | omega | (simp; done) | (simp; omega) | (simp at *; omega))) ?_)
       intro ra wa howna hga hata
       go_must (rw [Nat.zero_add, List.nil_append] at howna))
    | (at_builtin
       (refine wpList_append_src rfl _ _ 23 rfl w1.heap.size 27 j0 _ 3 24 Try.underlying23 hj0 hy0 hy1 hy2 rfl (by omega) _ _ l l2 _ _ rfl rfl howna (hsb _ (Below.grown (w := w2.alloc (.cells #[] 27)) (by (repeat (first | (with_reducible assumption) | (with_reducible exact Below.refl _ _) | ((with_reducible refine Below.alloc ?_ ?hsz _); (case hsz => (first | omega | (simp; done) | (simp; omega) | (simp at *; omega)))) | ((with_reducible refine Below.setCell ?_ ?hsz _); (case hsz => (first | omega | (simp; done) | (simp; omega) | (simp at *; omega)))) | (with_reducible refine Below.drew ?_) | (with_reducible refine below_drewN ?_ _) | ((with_reducible refine Below.trans ?_ (Below.mono (by with_reducible assumption) ?hsz)); (case hsz => (first | omega | (simp; done) | (simp; omega) | (simp at *; omega))))))) hga (by (first | omega | (simp; done) | (simp; omega) | (simp at *; omega))) (fun q hq => by injection hq with hq; dsimp only at hq; omega))) (by unfold maxLen; omega) (by omega) (by have := hga.size; simp at this; (first | omega | (simp; done) | (simp; omega) | (simp at *; omega))) ?_)
       intro rb wb hownb hgb hatb)
    | (at_builtin
       go_must (refine wpList_append_src rfl _ _ 23 rfl w1.heap.size 27 j0 _ 3 24 Try.underlying23 hj0 hy0 hy1 hy2 rfl (by omega) _ _ (l + l2) 1 _ [.int .i64 2, .int .i64 0, .int .i64 0] rfl rfl (own_keep hownb (Nat.le_refl _) (by (repeat (first | (with_reducible assumption) | (with_reducible exact Below.refl _ _) | ((with_reducible refine Below.alloc ?_ ?hsz _); (case hsz => (first | omega | (simp; done) | (simp; omega) | (simp at *; omega)))) | ((with_reducible refine Below.setCell ?_ ?hsz _); (case hsz => (first | omega | (simp; done) | (simp; omega) | (simp at *; omega)))) | (with_reducible refine Below.drew ?_) | (with_reducible refine below_drewN ?_ _) | ((with_reducible refine Below.trans ?_ (Below.mono (by with_reducible assumption) ?hsz)); (case hsz => (first | omega | (simp; done) | (simp; omega) | (simp at *; omega)))))))) (lit_src (heap_alloc_new wb (.cells #[.int .i64 2, .int .i64 0, .int .i64 0] 27)) rfl (by simp [Value.oneCell'])) (by unfold maxLen; omega) (by omega) (by have := hga.size; have := hgb.size; simp at *; (first | omega | (simp; done) | (simp; omega) | (simp at *; omega))) ?_)
       intro rc wc hownc hgc hatc))
  have hba : Below w1.heap.size w1 wa := Below.grown (w := w2.alloc (.cells #[] 27)) (by (repeat (first | (with_reducible assumption) | (with_reducible exact Below.refl _ _) | ((with_reducible refine Below.alloc ?_ ?hsz _); (case hsz => (first | omega | (simp; done) | (simp; omega) | (simp at *; omega)))) | ((with_reducible refine Below.setCell ?_ ?hsz _); (case hsz => (first | omega | (simp; done) | (simp; omega) | (simp at *; omega)))) | (with_reducible refine Below.drew ?_) | (with_reducible refine below_drewN ?_ _) | ((with_reducible refine Below.trans ?_ (Below.mono (by with_reducible assumption) ?hsz)); (case hsz => (first | omega | (simp; done) | (simp; omega) | (simp at *; omega))))))) hga (by (first | omega | (simp; done) | (simp; omega) | (simp at *; omega))) (fun q hq => (hl0.lt q hq).1)
  have hza := hba.size
  have hbb : Below w1.heap.size w1 wb := Below.grown hba hgb (by omega) (fun q hq => (howna.lt q hq).1)
  have hzb := hbb.size
  have hBw3 : Below w1.heap.size w1 wc := Below.grown (w := wb.alloc (.cells #[.int .i64 2, .int .i64 0, .int .i64 0] 27)) (by (repeat (first | (with_reducible assumption) | (with_reducible exact Below.refl _ _) | ((with_reducible refine Below.alloc ?_ ?hsz _); (case hsz => (first | omega | (simp; done) | (simp; omega) | (simp at *; omega)))) | ((with_reducible refine Below.setCell ?_ ?hsz _); (case hsz => (first | omega | (simp; done) | (simp; omega) | (simp at *; omega)))) | (with_reducible refine Below.drew ?_) | (with_reducible refine below_drewN ?_ _) | ((with_reducible refine Below.trans ?_ (Below.mono (by with_reducible assumption) ?hsz)); (case hsz => (first | omega | (simp; done) | (simp; omega) | (simp at *; omega))))))) hgc (by (first | omega | (simp; done) | (simp; omega) | (simp at *; omega))) (fun q hq => (hownb.lt q hq).1)
  have hwa : Below w2.heap.size w2 wa := Below.grown (w := w2.alloc (.cells #[] 27)) (by (repeat (first | (with_reducible assumption) | (with_reducible exact Below.refl _ _) | ((with_reducible refine Below.alloc ?_ ?hsz _); (case hsz => (first | omega | (simp; done) | (simp; omega) | (simp at *; omega)))) | ((with_reducible refine Below.setCell ?_ ?hsz _); (case hsz => (first | omega | (simp; done) | (simp; omega) | (simp at *; omega)))) | (with_reducible refine Below.drew ?_) | (with_reducible refine below_drewN ?_ _) | ((with_reducible refine Below.trans ?_ (Below.mono (by with_reducible assumption) ?hsz)); (case hsz => (first | omega | (simp; done) | (simp; omega) | (simp at *; omega))))))) hga (by (first | omega | (simp; done) | (simp; omega) | (simp at *; omega))) (fun q hq => by injection hq with hq; dsimp only at hq; omega)
  have hra : ∀ q, ra.ownBlock = some q → w2.heap.size ≤ q := fun q hq => by
    rcases hata with h | h
    · rw [hq] at h
      have h : q = w2.heap.size := by injection h
      omega
    · rw [hq] at h
      have h : q = (w2.alloc (.cells #[] 27)).heap.size := by injection h
      rw [World.size_alloc] at h
      omega
  have hwb : Below w2.heap.size w2 wb := Below.grown hwa hgb (by have := hwa.size; omega) hra
  have hrb : ∀ q, rb.ownBlock = some q → w2.heap.size ≤ q := fun q hq => by
    rcases hatb with h | h
    · rw [hq] at h; exact hra q h.symm
    · rw [hq] at h
      have h : q = wa.heap.size := by injection h
      have := hwa.size
      omega
  have hzwb := hwb.size
  have hnw3 : Below w2.heap.size w2 wc := Below.grown (w := wb.alloc (.cells #[.int .i64 2, .int .i64 0, .int .i64 0] 27)) (by (repeat (first | (with_reducible assumption) | (with_reducible exact Below.refl _ _) | ((with_reducible refine Below.alloc ?_ ?hsz _); (case hsz => (first | omega | (simp; done) | (simp; omega) | (simp at *; omega)))) | ((with_reducible refine Below.setCell ?_ ?hsz _); (case hsz => (first | omega | (simp; done) | (simp; omega) | (simp at *; omega)))) | (with_reducible refine Below.drew ?_) | (with_reducible refine below_drewN ?_ _) | ((with_reducible refine Below.trans ?_ (Below.mono (by with_reducible assumption) ?hsz)); (case hsz => (first | omega | (simp; done) | (simp; omega) | (simp at *; omega))))))) hgc (by have := hwb.size; (first | omega | (simp; done) | (simp; omega) | (simp at *; omega))) hrb
  have hMw3 : Marks wc w1.heap.size rc (ts ++ us ++ [⟨2, 0, 0⟩]) := Marks.app (us := [⟨2, 0, 0⟩]) (by rw [List.flatMap_append]; simpa [Mk.cells] using hownc) (by simp; have := HL.out; have := HL2.out; omega) (by unfold small; omega)
  obtain ⟨w3, hww3⟩ : ∃ W, W = wc := ⟨_, rfl⟩
  rw [← hww3] at hBw3 hnw3 hMw3 ⊢
  clear hownc hgc hatc howna hga hata hownb hgb hatb hba hbb hwa hwb hra hrb hl0 hsa hsb hza hzb hzwb hww3
  have hzw3 := hBw3.size
  have haw3 := haw2.keep hnw3
  have hbw3 := hbw2.keep hnw3
  have hl0 : (w3.alloc (.cells #[] 27)).ownsRow w1.heap.size 27 3 (.slice (some ⟨w3.heap.size, 0, none⟩) 0 0) 0 [] := lit_own0 hzw3 (heap_alloc_new _ _)
  have hsa := (haw3.keep (w' := w3.alloc (.cells #[] 27)) (by (repeat (first | (with_reducible assumption) | (with_reducible exact Below.refl _ _) | ((with_reducible refine Below.alloc ?_ ?hsz _); (case hsz => (first | omega | (simp; done) | (simp; omega) | (simp at *; omega)))) | ((with_reducible refine Below.setCell ?_ ?hsz _); (case hsz => (first | omega | (simp; done) | (simp; omega) | (simp at *; omega)))) | (with_reducible refine Below.drew ?_) | (with_reducible refine below_drewN ?_ _) | ((with_reducible refine Below.trans ?_ (Below.mono (by with_reducible assumption) ?hsz)); (case hsz => (first | omega | (simp; done) | (simp; omega) | (simp at *; omega)))))))).src
  rw [HL.out] at hsa
  have hsb := fun W hW => (hbw3.keep (w' := W) hW).src
  rw [HL2.out] at hsb
  go_upto_region 7 with (first
    | (at_builtin
       (refine wpList_append_src rfl _ _ 23 rfl w1.heap.size 27 j0 _ 3 24 Try.underlying23 hj0 hy0 hy1 hy2 rfl (by omega) _ _ 0 l [] _ rfl rfl hl0 hsa (by unfold maxLen; omega) (by omega) (by (first | omega | (simp; done) | (simp; omega) | (simp at *; omega))) ?_)
       intro ra wa howna hga hata
       go_must (rw [Nat.zero_add, List.nil_append] at howna))
    | (at_builtin
       (refine wpList_append_src rfl _ _ 23 rfl w1.heap.size 27 j0 _ 3 24 Try.underlying23 hj0 hy0 hy1 hy2 rfl (by omega) _ _ l l2 _ _ rfl rfl howna (hsb _ (Below.grown (w := w3.alloc (.cells #[] 27)) (by (repeat (first | (with_reducible assumption) | (with_reducible exact Below.refl _ _) | ((with_reducible refine Below.alloc ?_ ?hsz _); (case hsz => (first | omega | (simp; done) | (simp; omega) | (simp at *; omega)))) | ((with_reducible refine Below.setCell ?_ ?hsz _); (case hsz => (first | omega | (simp; done) | (simp; omega) | (simp at *; omega)))) | (with_reducible refine Below.drew ?_) | (with_reducible refine below_drewN ?_ _) | ((with_reducible refine Below.trans ?_ (Below.mono (by with_reducible assumption) ?hsz)); (case hsz => (first | omega | (simp; done) | (simp; omega) | (simp at *; omega))))))) hga (by (first | omega | (simp; done) | (simp; omega) | (simp at *; omega))) (fun q hq => by injection hq with hq; dsimp only at hq; omega))) (by unfold maxLen; omega) (by omega) (by have := hga.size; simp at this; (first | omega | (simp; done) | (simp; omega) | (simp at *; omega))) ?_)
       intro rb wb hownb hgb hatb)
    | (at_builtin
       go_must (refine wpList_append_src rfl _ _ 23 rfl w1.heap.size 27 j0 _ 3 24 Try.underlying23 hj0 hy0 hy1 hy2 rfl (by omega) _ _ (l + l2) 1 _ [.int .i64 1, .int .i64 0, .int .i64 0] rfl rfl (own_keep hownb (Nat.le_refl _) (by (repeat (first | (with_reducible assumption) | (with_reducible exact Below.refl _ _) | ((with_reducible refine Below.alloc ?_ ?hsz _); (case hsz => (first | omega | (simp; done) | (simp; omega) | (simp at *; omega)))) | ((with_reducible refine Below.setCell ?_ ?hsz _); (case hsz => (first | omega | (simp; done) | (simp; omega) | (simp at *; omega)))) | (with_reducible refine Below.drew ?_) | (with_reducible refine below_drewN ?_ _) | ((with_reducible refine Below.trans ?_ (Below.mono (by with_reducible assumption) ?hsz)); (case hsz => (first | omega | (simp; done) | (simp; omega) | (simp at *; omega)))))))) (lit_src (heap_alloc_new wb (.cells #[.int .i64 1, .int .i64 0, .int .i64 0] 27)) rfl (by simp [Value.oneCell'])) (by unfold maxLen; omega) (by omega) (by have := hga.size; have := hgb.size; simp at *; (first | omega | (simp; done) | (simp; omega) | (simp at *; omega))) ?_)
       intro rc wc hownc hgc hatc))
  have hba : Below w1.heap.size w1 wa := Below.grown (w := w3.alloc (.cells #[] 27)) (by (repeat (first | (with_reducible assumption) | (with_reducible exact Below.refl _ _) | ((with_reducible refine Below.alloc ?_ ?hsz _); (case hsz => (first | omega | (simp; done) | (simp; omega) | (simp at *; omega)))) | ((with_reducible refine Below.setCell ?_ ?hsz _); (case hsz => (first | omega | (simp; done) | (simp; omega) | (simp at *; omega)))) | (with_reducible refine Below.drew ?_) | (with_reducible refine below_drewN ?_ _) | ((with_reducible refine Below.trans ?_ (Below.mono (by with_reducible assumption) ?hsz)); (case hsz => (first | omega | (simp; done) | (simp; omega) | (simp at *; omega))))))) hga (by (first | omega | (simp; done) | (simp; omega) | (simp at *; omega))) (fun q hq => (hl0.lt q hq).1)
  have hza := hba.size
  have hbb : Below w1.heap.size w1 wb := Below.grown hba hgb (by omega) (fun q hq => (howna.lt q hq).1)
  have hzb := hbb.size
  have hBw4 : Below w1.heap.size w1 wc := Below.grown (w := wb.alloc (.cells #[.int .i64 1, .int .i64 0, .int .i64 0] 27)) (by (repeat (first | (with_reducible assumption) | (with_reducible exact Below.refl _ _) | ((with_reducible refine Below.alloc ?_ ?hsz _); (case hsz => (first | omega | (simp; done) | (simp; omega) | (simp at *; omega)))) | ((with_reducible refine Below.setCell ?_ ?hsz _); (case hsz => (first | omega | (simp; done) | (simp; omega) | (simp at *; omega)))) | (with_reducible refine Below.drew ?_) | (with_reducible refine below_drewN ?_ _) | ((with_reducible refine Below.trans ?_ (Below.mono (by with_reducible assumption) ?hsz)); (case hsz => (first | omega | (simp; done) | (simp; omega) | (simp at *; omega))))))) hgc (by (first | omega | (simp; done) | (simp; omega) | (simp at *; omega))) (fun q hq => (hownb.lt q hq).1)
  have hwa : Below w3.heap.size w3 wa := Below.grown (w := w3.alloc (.cells #[] 27)) (by (repeat (first | (with_reducible assumption) | (with_reducible exact Below.refl _ _) | ((with_reducible refine Below.alloc ?_ ?hsz _); (case hsz => (first | omega | (simp; done) | (simp; omega) | (simp at *; omega)))) | ((with_reducible refine Below.setCell ?_ ?hsz _); (case hsz => (first | omega | (simp; done) | (simp; omega) | (simp at *; omega)))) | (with_reducible refine Below.drew ?_) | (with_reducible refine below_drewN ?_ _) | ((with_reducible refine Below.trans ?_ (Below.mono (by with_reducible assumption) ?hsz)); (case hsz => (first | omega | (simp; done) | (simp; omega) | (simp at *; omega))))))) hga (by (first | omega | (simp; done) | (simp; omega) | (simp at *; omega))) (fun q hq => by injection hq with hq; dsimp only at hq; omega)
  have hra : ∀ q, ra.ownBlock = some q → w3.heap.size ≤ q := fun q hq => by
    rcases hata with h | h
    · rw [hq] at h
      have h : q = w3.heap.size := by injection h
      omega
    · rw [hq] at h
      have h : q = (w3.alloc (.cells #[] 27)).heap.size := by injection h
      rw [World.size_alloc] at h
      omega
  have hwb : Below w3.heap.size w3 wb := Below.grown hwa hgb (by have := hwa.size; omega) hra
  have hrb : ∀ q, rb.ownBlock = some q → w3.heap.size ≤ q := fun q hq => by
    rcases hatb with h | h
    · rw [hq] at h; exact hra q h.symm
    · rw [hq] at h
      have h : q = wa.heap.size := by injection h
      have := hwa.size
      omega
  have hzwb := hwb.size
  have hnw4 : Below w3.heap.size w3 wc := Below.grown (w := wb.alloc (.cells #[.int .i64 1, .int .i64 0, .int .i64 0] 27)) (by (repeat (first | (with_reducible assumption) | (with_reducible exact Below.refl _ _) | ((with_reducible refine Below.alloc ?_ ?hsz _); (case hsz => (first | omega | (simp; done) | (simp; omega) | (simp at *; omega)))) | ((with_reducible refine Below.setCell ?_ ?hsz _); (case hsz => (first | omega | (simp; done) | (simp; omega) | (simp at *; omega)))) | (with_reducible refine Below.drew ?_) | (with_reducible refine below_drewN ?_ _) | ((with_reducible refine Below.trans ?_ (Below.mono (by with_reducible assumption) ?hsz)); (case hsz => (first | omega | (simp; done) | (simp; omega) | (simp at *; omega))))))) hgc (by have := hwb.size; (first | omega | (simp; done) | (simp; omega) | (simp at *; omega))) hrb
  have hMw4 : Marks wc w1.heap.size rc (ts ++ us ++ [⟨1, 0, 0⟩]) := Marks.app (us := [⟨1, 0, 0⟩]) (by rw [List.flatMap_append]; simpa [Mk.cells] using hownc) (by simp; have := HL.out; have := HL2.out; omega) (by unfold small; omega)
  obtain ⟨w4, hww4⟩ : ∃ W, W = wc := ⟨_, rfl⟩
  rw [← hww4] at hBw4 hnw4 hMw4 ⊢
  clear hownc hgc hatc howna hga hata hownb hgb hatb hba hbb hwa hwb hra hrb hl0 hsa hsb hza hzb hzwb hww4
  have hzw4 := hBw4.size
  have haw4 := haw3.keep hnw4
  have hbw4 := hbw3.keep hnw4
  have hMb := hMw3.keep hnw4
  obtain ⟨ab, hab⟩ : ∃ b, termB ts = b := ⟨_, rfl⟩
  obtain ⟨bb, hbb⟩ : ∃ b, termB us = b := ⟨_, rfl⟩
  have HA := Lib.hid hab
  have HBt := Lib.hid hbb
  clear hab hbb
  clear haw2 hbw2 haw3 hbw3 hMw3
  go_wp2_with fail
  with_reducible refine (specTermOk_any _ ts _ _ haw4).mono ?_
  rintro e w5 ⟨rfl, hnn⟩
  have hB5 : Below w1.heap.size w1 w5 := by (repeat (first | (with_reducible assumption) | (with_reducible exact Below.refl _ _) | ((with_reducible refine Below.alloc ?_ ?hsz _); (case hsz => (first | omega | (simp; done) | (simp; omega) | (simp at *; omega)))) | ((with_reducible refine Below.setCell ?_ ?hsz _); (case hsz => (first | omega | (simp; done) | (simp; omega) | (simp at *; omega)))) | (with_reducible refine Below.drew ?_) | (with_reducible refine below_drewN ?_ _) | ((with_reducible refine Below.trans ?_ (Below.mono (by with_reducible assumption) ?hsz)); (case hsz => (first | omega | (simp; done) | (simp; omega) | (simp at *; omega))))))
  have hzw5 := (hB5).size
  have hnw5 := hnn
  clear hnn
  rw [HA.out]
  have ha5 := haw4.keep hnw5
  have hb5 := hbw4.keep hnw5
  have hMb5 := hMb.keep hnw5
  have hMt5 := hMw4.keep hnw5
  clear haw4 hbw4 hMb hMw4
  cases ab with
  | false =>
    go_wp2_with fail
    with_reducible refine (termOk_any _ ts _ _ ha5).mono ?_
    rintro e w6 ⟨rfl, hnn⟩
    have hB6 : Below w1.heap.size w1 w6 := by (repeat (first | (with_reducible assumption) | (with_reducible exact Below.refl _ _) | ((with_reducible refine Below.alloc ?_ ?hsz _); (case hsz => (first | omega | (simp; done) | (simp; omega) | (simp at *; omega)))) | ((with_reducible refine Below.setCell ?_ ?hsz _); (case hsz => (first | omega | (simp; done) | (simp; omega) | (simp at *; omega)))) | (with_reducible refine Below.drew ?_) | (with_reducible refine below_drewN ?_ _) | ((with_reducible refine Below.trans ?_ (Below.mono (by with_reducible assumption) ?hsz)); (case hsz => (first | omega | (simp; done) | (simp; omega) | (simp at *; omega))))))
    have hzw6 := (hB6).size
    have hnw6 := hnn
    clear hnn
    rw [HA.out]
    go_wp2
    (go_ret; exact ⟨rfl, hBw1.trans (Below.mono (by with_reducible assumption) hBw1.size)⟩)
  | true =>
    go_wp2_with fail
    with_reducible refine (specTermOk_any _ us _ _ hb5).mono ?_
    rintro e w6 ⟨rfl, hnn⟩
    have hB6 : Below w1.heap.size w1 w6 := by (repeat (first | (with_reducible assumption) | (with_reducible exact Below.refl _ _) | ((with_reducible refine Below.alloc ?_ ?hsz _); (case hsz => (first | omega | (simp; done) | (simp; omega) | (simp at *; omega)))) | ((with_reducible refine Below.setCell ?_ ?hsz _); (case hsz => (first | omega | (simp; done) | (simp; omega) | (simp at *; omega)))) | (with_reducible refine Below.drew ?_) | (with_reducible refine below_drewN ?_ _) | ((with_reducible refine Below.trans ?_ (Below.mono (by with_reducible assumption) ?hsz)); (case hsz => (first | omega | (simp; done) | (simp; omega) | (simp at *; omega))))))
    have hzw6 := (hB6).size
    have hnw6 := hnn
    clear hnn
    rw [HBt.out]
    have ha6 := ha5.keep hnw6
    have hb6 := hb5.keep hnw6
    have hMb6 := hMb5.keep hnw6
    have hMt6 := hMt5.keep hnw6
    clear ha5 hb5 hMb5 hMt5
    cases bb with
    | false =>
      go_wp2_with fail
      with_reducible refine (termOk_any _ ts _ _ ha6).mono ?_
      rintro e w7 ⟨rfl, hnn⟩
      have hB7 : Below w1.heap.size w1 w7 := by (repeat (first | (with_reducible assumption) | (with_reducible exact Below.refl _ _) | ((with_reducible refine Below.alloc ?_ ?hsz _); (case hsz => (first | omega | (simp; done) | (simp; omega) | (simp at *; omega)))) | ((with_reducible refine Below.setCell ?_ ?hsz _); (case hsz => (first | omega | (simp; done) | (simp; omega) | (simp at *; omega)))) | (with_reducible refine Below.drew ?_) | (with_reducible refine below_drewN ?_ _) | ((with_reducible refine Below.trans ?_ (Below.mono (by with_reducible assumption) ?hsz)); (case hsz => (first | omega | (simp; done) | (simp; omega) | (simp at *; omega))))))
      have hzw7 := (hB7).size
      have hnw7 := hnn
      clear hnn
      rw [HA.out]
      have hb7 := hb6.keep hnw7
      go_wp2_with fail
      with_reducible refine (termOk_any _ us _ _ hb7).mono ?_
      rintro e w8 ⟨rfl, hnn⟩
      have hB8 : Below w1.heap.size w1 w8 := by (repeat (first | (with_reducible assumption) | (with_reducible exact Below.refl _ _) | ((with_reducible refine Below.alloc ?_ ?hsz _); (case hsz => (first | omega | (simp; done) | (simp; omega) | (simp at *; omega)))) | ((with_reducible refine Below.setCell ?_ ?hsz _); (case hsz => (first | omega | (simp; done) | (simp; omega) | (simp at *; omega)))) | (with_reducible refine Below.drew ?_) | (with_reducible refine below_drewN ?_ _) | ((with_reducible refine Below.trans ?_ (Below.mono (by with_reducible assumption) ?hsz)); (case hsz => (first | omega | (simp; done) | (simp; omega) | (simp at *; omega))))))
      have hzw8 := (hB8).size
      have hnw8 := hnn
      clear hnn
      rw [HBt.out]
      go_wp2
      (go_ret; exact ⟨rfl, hBw1.trans (Below.mono (by with_reducible assumption) hBw1.size)⟩)
    | true =>
      obtain ⟨-, hg1, h71, -⟩ := term_of HA.out
      obtain ⟨-, hg2, h72, -⟩ := term_of HBt.out
      obtain ⟨na, hna⟩ : ∃ x, carriesN ts = x := ⟨_, rfl⟩
      obtain ⟨nb, hnb⟩ : ∃ x, carriesN us = x := ⟨_, rfl⟩
      have hna0 : 0 ≤ na ∧ na ≤ 28 := by
        rw [← hna]; simp only [carriesN, HA.out, if_true]
        have := (tmOf ts).carry_bd hg1; omega
      have hnb0 : 0 ≤ nb ∧ nb ≤ 28 := by
        rw [← hnb]; simp only [carriesN, HBt.out, if_true]
        have := (tmOf us).carry_bd hg2; omega
      have HNA := Lib.hid hna
      have HNB := Lib.hid hnb
      obtain ⟨hna0, hna1⟩ := hna0
      obtain ⟨hnb0, hnb1⟩ := hnb0
      clear hna hnb hg1 hg2 h71 h72
      go_wp2_with fail
      with_reducible refine (carriesOf_any _ ts _ _ ha6).mono ?_
      rintro e w7 ⟨rfl, hnn⟩
      have hB7 : Below w1.heap.size w1 w7 := by (repeat (first | (with_reducible assumption) | (with_reducible exact Below.refl _ _) | ((with_reducible refine Below.alloc ?_ ?hsz _); (case hsz => (first | omega | (simp; done) | (simp; omega) | (simp at *; omega)))) | ((with_reducible refine Below.setCell ?_ ?hsz _); (case hsz => (first | omega | (simp; done) | (simp; omega) | (simp at *; omega)))) | (with_reducible refine Below.drew ?_) | (with_reducible refine below_drewN ?_ _) | ((with_reducible refine Below.trans ?_ (Below.mono (by with_reducible assumption) ?hsz)); (case hsz => (first | omega | (simp; done) | (simp; omega) | (simp at *; omega))))))
      have hzw7 := (hB7).size
      have hnw7 := hnn
      clear hnn
      rw [HNA.out]
      have ha7 := ha6.keep hnw7
      have hb7 := hb6.keep hnw7
      have hMb7 := hMb6.keep hnw7
      have hMt7 := hMt6.keep hnw7
      clear ha6 hb6 hMb6 hMt6
      go_wp2_with fail
      with_reducible refine (carriesOf_any _ us _ _ hb7).mono ?_
      rintro e w8 ⟨rfl, hnn⟩
      have hB8 : Below w1.heap.size w1 w8 := by (repeat (first | (with_reducible assumption) | (with_reducible exact Below.refl _ _) | ((with_reducible refine Below.alloc ?_ ?hsz _); (case hsz => (first | omega | (simp; done) | (simp; omega) | (simp at *; omega)))) | ((with_reducible refine Below.setCell ?_ ?hsz _); (case hsz => (first | omega | (simp; done) | (simp; omega) | (simp at *; omega)))) | (with_reducible refine Below.drew ?_) | (with_reducible refine below_drewN ?_ _) | ((with_reducible refine Below.trans ?_ (Below.mono (by with_reducible assumption) ?hsz)); (case hsz => (first | omega | (simp; done) | (simp; omega) | (simp at *; omega))))))
      have hzw8 := (hB8).size
      have hnw8 := hnn
      clear hnn
      rw [HNB.out]
      have ha8 := ha7.keep hnw8
      have hb8 := hb7.keep hnw8
      have hMb8 := hMb7.keep hnw8
      have hMt8 := hMt7.keep hnw8
      clear ha7 hb7 hMb7 hMt7
      go_wp2_with fail
      with_reducible refine (costsOf_any _ ts _ _ ha8).mono ?_
      rintro e w9 ⟨r, rfl, hr, hnn⟩
      have hBw9 : Below w1.heap.size w1 w9 := by (repeat (first | (with_reducible assumption) | (with_reducible exact Below.refl _ _) | ((with_reducible refine Below.alloc ?_ ?hsz _); (case hsz => (first | omega | (simp; done) | (simp; omega) | (simp at *; omega)))) | ((with_reducible refine Below.setCell ?_ ?hsz _); (case hsz => (first | omega | (simp; done) | (simp; omega) | (simp at *; omega)))) | (with_reducible refine Below.drew ?_) | (with_reducible refine below_drewN ?_ _) | ((with_reducible refine Below.trans ?_ (Below.mono (by with_reducible assumption) ?hsz)); (case hsz => (first | omega | (simp; done) | (simp; omega) | (simp at *; omega))))))
      have hzw9 := hBw9.size
      have hnw9 := hnn
      clear hnn
      have hx9 := hr
      have hb9 := hb8.keep hnw9
      have hMb9 := hMb8.keep hnw9
      have hMt9 := hMt8.keep hnw9
      clear ha8 hb8 hMb8 hMt8 hr
      obtain ⟨XA, xc, rfl, xk1, xk2, -, hxc⟩ := hx9.form
      go_wp2_with fail
      with_reducible refine (costsOf_any _ us _ _ hb9).mono ?_
      rintro e w10 ⟨r, rfl, hr, hnn⟩
      have hBw10 : Below w1.heap.size w1 w10 := by (repeat (first | (with_reducible assumption) | (with_reducible exact Below.refl _ _) | ((with_reducible refine Below.alloc ?_ ?hsz _); (case hsz => (first | omega | (simp; done) | (simp; omega) | (simp at *; omega)))) | ((with_reducible refine Below.setCell ?_ ?hsz _); (case hsz => (first | omega | (simp; done) | (simp; omega) | (simp at *; omega)))) | (with_reducible refine Below.drew ?_) | (with_reducible refine below_drewN ?_ _) | ((with_reducible refine Below.trans ?_ (Below.mono (by with_reducible assumption) ?hsz)); (case hsz => (first | omega | (simp; done) | (simp; omega) | (simp at *; omega))))))
      have hzw10 := hBw10.size
      have hnw10 := hnn
      clear hnn
      have hyy := hr
      have hMb10 := hMb9.keep hnw10
      have hMt10 := hMt9.keep hnw10
      clear hb9 hMb9 hMt9 hr
      obtain ⟨YA, yc, rfl, yk1, yk2, -, hyc⟩ := hyy.form
      go_wp2_with fail
      with_reducible refine (costsOf_any _ _ _ _ hMt10).mono ?_
      rintro e w11 ⟨r, rfl, hr, hnn⟩
      have hBw11 : Below w1.heap.size w1 w11 := by (repeat (first | (with_reducible assumption) | (with_reducible exact Below.refl _ _) | ((with_reducible refine Below.alloc ?_ ?hsz _); (case hsz => (first | omega | (simp; done) | (simp; omega) | (simp at *; omega)))) | ((with_reducible refine Below.setCell ?_ ?hsz _); (case hsz => (first | omega | (simp; done) | (simp; omega) | (simp at *; omega)))) | (with_reducible refine Below.drew ?_) | (with_reducible refine below_drewN ?_ _) | ((with_reducible refine Below.trans ?_ (Below.mono (by with_reducible assumption) ?hsz)); (case hsz => (first | omega | (simp; done) | (simp; omega) | (simp at *; omega))))))
      have hzw11 := hBw11.size
      have hnw11 := hnn
      clear hnn
      have hzz := hr
      have hMb11 := hMb10.keep hnw11
      have hMt11 := hMt10.keep hnw11
      clear hMb10 hMt10 hr
      obtain ⟨ZA, zc, rfl, zk1, zk2, -, hzc⟩ := hzz.form
      unfold maxLen at xk2 yk2 zk2
      obtain ⟨bt, hbt⟩ : ∃ b, termB (ts ++ us ++ [⟨1, 0, 0⟩]) = b := ⟨_, rfl⟩
      obtain ⟨bs, hbs⟩ : ∃ b, termB (ts ++ us ++ [⟨2, 0, 0⟩]) = b := ⟨_, rfl⟩
      have HT := Lib.hid hbt
      have HS := Lib.hid hbs
      clear hbt hbs
      obtain ⟨lx, hlx⟩ : ∃ x, (costsR ts).length = x := ⟨_, rfl⟩
      obtain ⟨ly, hly⟩ : ∃ x, (costsR us).length = x := ⟨_, rfl⟩
      obtain ⟨lz, hlz⟩ : ∃ x, (costsR (ts ++ us ++ [⟨1, 0, 0⟩])).length = x := ⟨_, rfl⟩
      have hx29 := costsR_len ts
      have hy29 := costsR_len us
      have hz29 := costsR_len (ts ++ us ++ [⟨1, 0, 0⟩])
      have HX := Lib.hid (And.intro hlx (And.intro hly hlz))
      rw [hlx] at xk1 hx29 ⊢
      rw [hly] at yk1 hy29 ⊢
      rw [hlz] at zk1 hz29 ⊢
      have HXC := Lib.hid (fun wr (hb : Below w11.heap.size w11 wr) k hk => hxc wr ((hnw10.trans (hnw11.mono hnw10.size)).trans (hb.mono (by have := hnw10.size; have := hnw11.size; omega))) k hk)
      have HYC := Lib.hid (fun wr (hb : Below w11.heap.size w11 wr) k hk => hyc wr (hnw11.trans (hb.mono hnw11.size)) k hk)
      have HZC := Lib.hid hzc
      clear hxc hyc hzc hlx hly hlz hx9 hyy hzz
      go_wp2_with fail
      with_reducible refine (termOk_any _ _ _ _ hMt11).mono ?_
      rintro e w12 ⟨rfl, hnn⟩
      have hB12 : Below w1.heap.size w1 w12 := by (repeat (first | (with_reducible assumption) | (with_reducible exact Below.refl _ _) | ((with_reducible refine Below.alloc ?_ ?hsz _); (case hsz => (first | omega | (simp; done) | (simp; omega) | (simp at *; omega)))) | ((with_reducible refine Below.setCell ?_ ?hsz _); (case hsz => (first | omega | (simp; done) | (simp; omega) | (simp at *; omega)))) | (with_reducible refine Below.drew ?_) | (with_reducible refine below_drewN ?_ _) | ((with_reducible refine Below.trans ?_ (Below.mono (by with_reducible assumption) ?hsz)); (case hsz => (first | omega | (simp; done) | (simp; omega) | (simp at *; omega))))))
      have hzw12 := (hB12).size
      have hnw12 := hnn
      clear hnn
      rw [HT.out]
      have hMb12 := hMb11.keep hnw12
      have hMt12 := hMt11.keep hnw12
      have h1112 := hnw12
      clear hMb11 hMt11
      cases bt with
      | false =>
        go_wp2_with fail
        with_reducible refine (alive_any _).mono ?_
        rintro e w21 ⟨rfl, hnn⟩
        have hB21 : Below w1.heap.size w1 w21 := by (repeat (first | (with_reducible assumption) | (with_reducible exact Below.refl _ _) | ((with_reducible refine Below.alloc ?_ ?hsz _); (case hsz => (first | omega | (simp; done) | (simp; omega) | (simp at *; omega)))) | ((with_reducible refine Below.setCell ?_ ?hsz _); (case hsz => (first | omega | (simp; done) | (simp; omega) | (simp at *; omega)))) | (with_reducible refine Below.drew ?_) | (with_reducible refine below_drewN ?_ _) | ((with_reducible refine Below.trans ?_ (Below.mono (by with_reducible assumption) ?hsz)); (case hsz => (first | omega | (simp; done) | (simp; omega) | (simp at *; omega))))))
        have hzw21 := (hB21).size
        have hnw21 := hnn
        clear hnn
        have hMb21 := hMb12.keep hnw21
        have hMt21 := hMt12.keep hnw21
        go_wp2_with fail
        with_reducible refine (termOk_any _ _ _ _ hMb21).mono ?_
        rintro e w22 ⟨rfl, hnn⟩
        have hB22 : Below w1.heap.size w1 w22 := by (repeat (first | (with_reducible assumption) | (with_reducible exact Below.refl _ _) | ((with_reducible refine Below.alloc ?_ ?hsz _); (case hsz => (first | omega | (simp; done) | (simp; omega) | (simp at *; omega)))) | ((with_reducible refine Below.setCell ?_ ?hsz _); (case hsz => (first | omega | (simp; done) | (simp; omega) | (simp at *; omega)))) | (with_reducible refine Below.drew ?_) | (with_reducible refine below_drewN ?_ _) | ((with_reducible refine Below.trans ?_ (Below.mono (by with_reducible assumption) ?hsz)); (case hsz => (first | omega | (simp; done) | (simp; omega) | (simp at *; omega))))))
        have hzw22 := (hB22).size
        have hnw22 := hnn
        clear hnn
        rw [HS.out]
        have hMb22 := hMb21.keep hnw22
        have hMt22 := hMt21.keep hnw22
        cases bs with
        | false =>
          go_wp2_with fail
          with_reducible refine (termOk_any _ _ _ _ hMt22).mono ?_
          rintro e w23 ⟨rfl, hnn⟩
          have hB23 : Below w1.heap.size w1 w23 := by (repeat (first | (with_reducible assumption) | (with_reducible exact Below.refl _ _) | ((with_reducible refine Below.alloc ?_ ?hsz _); (case hsz => (first | omega | (simp; done) | (simp; omega) | (simp at *; omega)))) | ((with_reducible refine Below.setCell ?_ ?hsz _); (case hsz => (first | omega | (simp; done) | (simp; omega) | (simp at *; omega)))) | (with_reducible refine Below.drew ?_) | (with_reducible refine below_drewN ?_ _) | ((with_reducible refine Below.trans ?_ (Below.mono (by with_reducible assumption) ?hsz)); (case hsz => (first | omega | (simp; done) | (simp; omega) | (simp at *; omega))))))
          have hzw23 := (hB23).size
          have hnw23 := hnn
          clear hnn
          rw [HT.out]
          have hMt23 := hMt22.keep hnw23
          skip
          go_wp2
          (go_ret; exact ⟨rfl, hBw1.trans (Below.mono (by with_reducible assumption) hBw1.size)⟩)
        | true =>
          have HCB := Lib.hid (show carriesN (ts ++ us ++ [⟨2, 0, 0⟩]) = na + nb by
            have h := two_carry true HA.out HBt.out HS.out
            rw [HNA.out, HNB.out] at h
            exact h)
          go_wp2_with fail
          with_reducible refine (carriesOf_any _ _ _ _ hMb22).mono ?_
          rintro e w23a ⟨rfl, hnn⟩
          have hB23a : Below w1.heap.size w1 w23a := by (repeat (first | (with_reducible assumption) | (with_reducible exact Below.refl _ _) | ((with_reducible refine Below.alloc ?_ ?hsz _); (case hsz => (first | omega | (simp; done) | (simp; omega) | (simp at *; omega)))) | ((with_reducible refine Below.setCell ?_ ?hsz _); (case hsz => (first | omega | (simp; done) | (simp; omega) | (simp at *; omega)))) | (with_reducible refine Below.drew ?_) | (with_reducible refine below_drewN ?_ _) | ((with_reducible refine Below.trans ?_ (Below.mono (by with_reducible assumption) ?hsz)); (case hsz => (first | omega | (simp; done) | (simp; omega) | (simp at *; omega))))))
          have hzw23a := (hB23a).size
          have hnw23a := hnn
          clear hnn
          rw [HCB.out]
          have hMt23a := hMt22.keep hnw23a
          go_wp2_with fail
          with_reducible refine (termOk_any _ _ _ _ hMt23a).mono ?_
          rintro e w23 ⟨rfl, hnn⟩
          have hB23 : Below w1.heap.size w1 w23 := by (repeat (first | (with_reducible assumption) | (with_reducible exact Below.refl _ _) | ((with_reducible refine Below.alloc ?_ ?hsz _); (case hsz => (first | omega | (simp; done) | (simp; omega) | (simp at *; omega)))) | ((with_reducible refine Below.setCell ?_ ?hsz _); (case hsz => (first | omega | (simp; done) | (simp; omega) | (simp at *; omega)))) | (with_reducible refine Below.drew ?_) | (with_reducible refine below_drewN ?_ _) | ((with_reducible refine Below.trans ?_ (Below.mono (by with_reducible assumption) ?hsz)); (case hsz => (first | omega | (simp; done) | (simp; omega) | (simp at *; omega))))))
          have hzw23 := (hB23).size
          have hnw23 := hnn
          clear hnn
          rw [HT.out]
          have hMt23 := hMt23a.keep hnw23
          skip
          go_wp2
          (go_ret; exact ⟨rfl, hBw1.trans (Below.mono (by with_reducible assumption) hBw1.size)⟩)
      | true =>
        have hCO := then_costs HA.out HBt.out HT.out
        have hbl := behind_len (costsR ts) (costsR us)
        rw [← hCO, HX.out.2.2, HX.out.1, HX.out.2.1] at hbl
        have hlzx : lz ≤ lx := by omega
        have hlzy : lz ≤ ly := by omega
        have HZX := Lib.hid (fun k (hk : k < lz) => (show (costsR (ts ++ us ++ [⟨1, 0, 0⟩])).getD k 0 = (costsR ts).getD k 0 + (costsR us).getD k 0 by
          have h1 : k < (behindL (costsR ts) (costsR us)).length := by rw [← hCO, HX.out.2.2]; exact hk
          have h2 := behind_at h1
          rwa [← hCO] at h2))
        have HBX := Lib.hid (bdL_getD (costs_bdR ts) (by omega))
        have HBY := Lib.hid (bdL_getD (costs_bdR us) (by omega))
        have HMI := Lib.hid (show carriesN (ts ++ us ++ [⟨1, 0, 0⟩]) = min na nb by
          have h := two_carry false HA.out HBt.out HT.out
          rw [HNA.out, HNB.out] at h
          exact h)
        clear hCO hbl
        go_wp2_with fail
        go_loopw [14] (fun i wr => ∃ k : Nat, k ≤ lz ∧ i = .int .i64 k ∧ Below w12.heap.size w12 wr) (fun i _ => lz - (intOf i).toNat)
        case atStart => exact ⟨0, by omega, rfl, by (repeat (first | (with_reducible assumption) | (with_reducible exact Below.refl _ _) | ((with_reducible refine Below.alloc ?_ ?hsz _); (case hsz => (first | omega | (simp; done) | (simp; omega) | (simp at *; omega)))) | ((with_reducible refine Below.setCell ?_ ?hsz _); (case hsz => (first | omega | (simp; done) | (simp; omega) | (simp at *; omega)))) | (with_reducible refine Below.drew ?_) | (with_reducible refine below_drewN ?_ _) | ((with_reducible refine Below.trans ?_ (Below.mono (by with_reducible assumption) ?hsz)); (case hsz => (first | omega | (simp; done) | (simp; omega) | (simp at *; omega))))))⟩
        case round =>
          obtain ⟨k, hk, rfl, hb⟩ := hrel
          have hbz := hb.size
          by_cases hlt : k < lz
          · have hb11 : Below w11.heap.size w11 wr := h1112.trans (hb.mono h1112.size)
            have hz1 := hb11.size
            have kx : k < (costsR ts).length := by rw [HX.out.1]; omega
            have ky : k < (costsR us).length := by rw [HX.out.2.1]; omega
            have kz : k < (costsR (ts ++ us ++ [⟨1, 0, 0⟩])).length := by rw [HX.out.2.2]; omega
            obtain ⟨gx, rfl, -, hgx, cx, -⟩ := HXC.out wr hb11 k kx
            obtain ⟨gy, rfl, -, hgy, cy, -⟩ := HYC.out wr hb11 k ky
            obtain ⟨gz, rfl, -, hgz, cz, -⟩ := HZC.out wr hb11 k kz
            have ex : (costsR ts)[k] = (costsR ts).getD k 0 := by simp [List.getD_eq_getElem?_getD, kx]
            have ey : (costsR us)[k] = (costsR us).getD k 0 := by simp [List.getD_eq_getElem?_getD, ky]
            have ez : (costsR (ts ++ us ++ [⟨1, 0, 0⟩]))[k] = (costsR (ts ++ us ++ [⟨1, 0, 0⟩])).getD k 0 := by simp only [List.getD_eq_getElem?_getD, List.getElem?_eq_getElem kz, Option.getD_some]
            rw [ex] at cx
            rw [ey] at cy
            rw [ez, HZX.out k hlt] at cz
            have b1 := HBX.out k
            have b2 := HBY.out k
            generalize (costsR ts).getD k 0 = xk at *
            generalize (costsR us).getD k 0 = yk at *
            have hgx' : gx < wr.heap.size := by have := hnw10.size; have := hnw11.size; omega
            have hgy' : gy < wr.heap.size := by have := hnw11.size; omega
            have hgz' : gz < wr.heap.size := by omega
            have hw : IntKind.i64.wrap (xk + yk) = xk + yk := by rw [IntWalk.i64_in _ (by omega)]
            have hw2 : RowKit.wrap64 (xk + yk) = xk + yk := IntWalk.wrap64_in _ (by omega)
            have hd1 : decide (lx ≤ k) = false := decide_eq_false (by omega)
            have hd2 : decide ((lx : Int) ≤ (k : Int)) = false := decide_eq_false (by omega)
            have hd3 : decide (ly ≤ k) = false := decide_eq_false (by omega)
            have hd4 : decide ((ly : Int) ≤ (k : Int)) = false := decide_eq_false (by omega)
            clear ex ey ez kx ky kz b1 b2
            go_wp2_with fail
            refine wp_region_quiet_lit (by kernel_rfl) (by kernel_rfl) ?_
            repeat (go_big_quiet_step (fail))
            refine wpQuiet_nil ?_
            rintro _ ⟨nq, rfl⟩
            have hbq : Below w12.heap.size w12 (wr.drewN nq) := by (repeat (first | (with_reducible assumption) | (with_reducible exact Below.refl _ _) | ((with_reducible refine Below.alloc ?_ ?hsz _); (case hsz => (first | omega | (simp; done) | (simp; omega) | (simp at *; omega)))) | ((with_reducible refine Below.setCell ?_ ?hsz _); (case hsz => (first | omega | (simp; done) | (simp; omega) | (simp at *; omega)))) | (with_reducible refine Below.drew ?_) | (with_reducible refine below_drewN ?_ _) | ((with_reducible refine Below.trans ?_ (Below.mono (by with_reducible assumption) ?hsz)); (case hsz => (first | omega | (simp; done) | (simp; omega) | (simp at *; omega))))))
            clear hd1 hd2 hd3 hd4 cx cy cz hw hw2
            go_wp2_with fail
            go_roundw
            case rel => exact ⟨k + 1, by omega, by go_num, hbq⟩
            case measure => simp [intOf]; omega
          · have hMbr := hMb12.keep hb
            have hMtr := hMt12.keep hb
            have hBr : Below w1.heap.size w1 wr := hB12.trans (hb.mono hB12.size)
            have hzr := hBr.size
            clear hb
            by_cases hnm : na ≤ nb
            · have HCT := Lib.hid (show carriesN (ts ++ us ++ [⟨1, 0, 0⟩]) = na by rw [HMI.out]; omega)
              go_wp2_with fail
              with_reducible refine (alive_any _).mono ?_
              rintro e w21 ⟨rfl, hnn⟩
              have hB21 : Below w1.heap.size w1 w21 := by (repeat (first | (with_reducible assumption) | (with_reducible exact Below.refl _ _) | ((with_reducible refine Below.alloc ?_ ?hsz _); (case hsz => (first | omega | (simp; done) | (simp; omega) | (simp at *; omega)))) | ((with_reducible refine Below.setCell ?_ ?hsz _); (case hsz => (first | omega | (simp; done) | (simp; omega) | (simp at *; omega)))) | (with_reducible refine Below.drew ?_) | (with_reducible refine below_drewN ?_ _) | ((with_reducible refine Below.trans ?_ (Below.mono (by with_reducible assumption) ?hsz)); (case hsz => (first | omega | (simp; done) | (simp; omega) | (simp at *; omega))))))
              have hzw21 := (hB21).size
              have hnw21 := hnn
              clear hnn
              have hMb21 := hMbr.keep hnw21
              have hMt21 := hMtr.keep hnw21
              go_wp2_with fail
              with_reducible refine (termOk_any _ _ _ _ hMb21).mono ?_
              rintro e w22 ⟨rfl, hnn⟩
              have hB22 : Below w1.heap.size w1 w22 := by (repeat (first | (with_reducible assumption) | (with_reducible exact Below.refl _ _) | ((with_reducible refine Below.alloc ?_ ?hsz _); (case hsz => (first | omega | (simp; done) | (simp; omega) | (simp at *; omega)))) | ((with_reducible refine Below.setCell ?_ ?hsz _); (case hsz => (first | omega | (simp; done) | (simp; omega) | (simp at *; omega)))) | (with_reducible refine Below.drew ?_) | (with_reducible refine below_drewN ?_ _) | ((with_reducible refine Below.trans ?_ (Below.mono (by with_reducible assumption) ?hsz)); (case hsz => (first | omega | (simp; done) | (simp; omega) | (simp at *; omega))))))
              have hzw22 := (hB22).size
              have hnw22 := hnn
              clear hnn
              rw [HS.out]
              have hMb22 := hMb21.keep hnw22
              have hMt22 := hMt21.keep hnw22
              cases bs with
              | false =>
                go_wp2_with fail
                with_reducible refine (termOk_any _ _ _ _ hMt22).mono ?_
                rintro e w23 ⟨rfl, hnn⟩
                have hB23 : Below w1.heap.size w1 w23 := by (repeat (first | (with_reducible assumption) | (with_reducible exact Below.refl _ _) | ((with_reducible refine Below.alloc ?_ ?hsz _); (case hsz => (first | omega | (simp; done) | (simp; omega) | (simp at *; omega)))) | ((with_reducible refine Below.setCell ?_ ?hsz _); (case hsz => (first | omega | (simp; done) | (simp; omega) | (simp at *; omega)))) | (with_reducible refine Below.drew ?_) | (with_reducible refine below_drewN ?_ _) | ((with_reducible refine Below.trans ?_ (Below.mono (by with_reducible assumption) ?hsz)); (case hsz => (first | omega | (simp; done) | (simp; omega) | (simp at *; omega))))))
                have hzw23 := (hB23).size
                have hnw23 := hnn
                clear hnn
                rw [HT.out]
                have hMt23 := hMt22.keep hnw23
                go_wp2_with fail
                with_reducible refine (carriesOf_any _ _ _ _ hMt23).mono ?_
                rintro e w24 ⟨rfl, hnn⟩
                have hB24 : Below w1.heap.size w1 w24 := by (repeat (first | (with_reducible assumption) | (with_reducible exact Below.refl _ _) | ((with_reducible refine Below.alloc ?_ ?hsz _); (case hsz => (first | omega | (simp; done) | (simp; omega) | (simp at *; omega)))) | ((with_reducible refine Below.setCell ?_ ?hsz _); (case hsz => (first | omega | (simp; done) | (simp; omega) | (simp at *; omega)))) | (with_reducible refine Below.drew ?_) | (with_reducible refine below_drewN ?_ _) | ((with_reducible refine Below.trans ?_ (Below.mono (by with_reducible assumption) ?hsz)); (case hsz => (first | omega | (simp; done) | (simp; omega) | (simp at *; omega))))))
                have hzw24 := (hB24).size
                have hnw24 := hnn
                clear hnn
                rw [HCT.out]
                go_wp2
                (go_ret; exact ⟨rfl, hBw1.trans (Below.mono (by with_reducible assumption) hBw1.size)⟩)
              | true =>
                have HCB := Lib.hid (show carriesN (ts ++ us ++ [⟨2, 0, 0⟩]) = na + nb by
                  have h := two_carry true HA.out HBt.out HS.out
                  rw [HNA.out, HNB.out] at h
                  exact h)
                go_wp2_with fail
                with_reducible refine (carriesOf_any _ _ _ _ hMb22).mono ?_
                rintro e w23a ⟨rfl, hnn⟩
                have hB23a : Below w1.heap.size w1 w23a := by (repeat (first | (with_reducible assumption) | (with_reducible exact Below.refl _ _) | ((with_reducible refine Below.alloc ?_ ?hsz _); (case hsz => (first | omega | (simp; done) | (simp; omega) | (simp at *; omega)))) | ((with_reducible refine Below.setCell ?_ ?hsz _); (case hsz => (first | omega | (simp; done) | (simp; omega) | (simp at *; omega)))) | (with_reducible refine Below.drew ?_) | (with_reducible refine below_drewN ?_ _) | ((with_reducible refine Below.trans ?_ (Below.mono (by with_reducible assumption) ?hsz)); (case hsz => (first | omega | (simp; done) | (simp; omega) | (simp at *; omega))))))
                have hzw23a := (hB23a).size
                have hnw23a := hnn
                clear hnn
                rw [HCB.out]
                have hMt23a := hMt22.keep hnw23a
                go_wp2_with fail
                with_reducible refine (termOk_any _ _ _ _ hMt23a).mono ?_
                rintro e w23 ⟨rfl, hnn⟩
                have hB23 : Below w1.heap.size w1 w23 := by (repeat (first | (with_reducible assumption) | (with_reducible exact Below.refl _ _) | ((with_reducible refine Below.alloc ?_ ?hsz _); (case hsz => (first | omega | (simp; done) | (simp; omega) | (simp at *; omega)))) | ((with_reducible refine Below.setCell ?_ ?hsz _); (case hsz => (first | omega | (simp; done) | (simp; omega) | (simp at *; omega)))) | (with_reducible refine Below.drew ?_) | (with_reducible refine below_drewN ?_ _) | ((with_reducible refine Below.trans ?_ (Below.mono (by with_reducible assumption) ?hsz)); (case hsz => (first | omega | (simp; done) | (simp; omega) | (simp at *; omega))))))
                have hzw23 := (hB23).size
                have hnw23 := hnn
                clear hnn
                rw [HT.out]
                have hMt23 := hMt23a.keep hnw23
                go_wp2_with fail
                with_reducible refine (carriesOf_any _ _ _ _ hMt23).mono ?_
                rintro e w24 ⟨rfl, hnn⟩
                have hB24 : Below w1.heap.size w1 w24 := by (repeat (first | (with_reducible assumption) | (with_reducible exact Below.refl _ _) | ((with_reducible refine Below.alloc ?_ ?hsz _); (case hsz => (first | omega | (simp; done) | (simp; omega) | (simp at *; omega)))) | ((with_reducible refine Below.setCell ?_ ?hsz _); (case hsz => (first | omega | (simp; done) | (simp; omega) | (simp at *; omega)))) | (with_reducible refine Below.drew ?_) | (with_reducible refine below_drewN ?_ _) | ((with_reducible refine Below.trans ?_ (Below.mono (by with_reducible assumption) ?hsz)); (case hsz => (first | omega | (simp; done) | (simp; omega) | (simp at *; omega))))))
                have hzw24 := (hB24).size
                have hnw24 := hnn
                clear hnn
                rw [HCT.out]
                go_wp2
                (go_ret; exact ⟨rfl, hBw1.trans (Below.mono (by with_reducible assumption) hBw1.size)⟩)
            · have HCT := Lib.hid (show carriesN (ts ++ us ++ [⟨1, 0, 0⟩]) = nb by rw [HMI.out]; omega)
              go_wp2_with fail
              with_reducible refine (alive_any _).mono ?_
              rintro e w21 ⟨rfl, hnn⟩
              have hB21 : Below w1.heap.size w1 w21 := by (repeat (first | (with_reducible assumption) | (with_reducible exact Below.refl _ _) | ((with_reducible refine Below.alloc ?_ ?hsz _); (case hsz => (first | omega | (simp; done) | (simp; omega) | (simp at *; omega)))) | ((with_reducible refine Below.setCell ?_ ?hsz _); (case hsz => (first | omega | (simp; done) | (simp; omega) | (simp at *; omega)))) | (with_reducible refine Below.drew ?_) | (with_reducible refine below_drewN ?_ _) | ((with_reducible refine Below.trans ?_ (Below.mono (by with_reducible assumption) ?hsz)); (case hsz => (first | omega | (simp; done) | (simp; omega) | (simp at *; omega))))))
              have hzw21 := (hB21).size
              have hnw21 := hnn
              clear hnn
              have hMb21 := hMbr.keep hnw21
              have hMt21 := hMtr.keep hnw21
              go_wp2_with fail
              with_reducible refine (termOk_any _ _ _ _ hMb21).mono ?_
              rintro e w22 ⟨rfl, hnn⟩
              have hB22 : Below w1.heap.size w1 w22 := by (repeat (first | (with_reducible assumption) | (with_reducible exact Below.refl _ _) | ((with_reducible refine Below.alloc ?_ ?hsz _); (case hsz => (first | omega | (simp; done) | (simp; omega) | (simp at *; omega)))) | ((with_reducible refine Below.setCell ?_ ?hsz _); (case hsz => (first | omega | (simp; done) | (simp; omega) | (simp at *; omega)))) | (with_reducible refine Below.drew ?_) | (with_reducible refine below_drewN ?_ _) | ((with_reducible refine Below.trans ?_ (Below.mono (by with_reducible assumption) ?hsz)); (case hsz => (first | omega | (simp; done) | (simp; omega) | (simp at *; omega))))))
              have hzw22 := (hB22).size
              have hnw22 := hnn
              clear hnn
              rw [HS.out]
              have hMb22 := hMb21.keep hnw22
              have hMt22 := hMt21.keep hnw22
              cases bs with
              | false =>
                go_wp2_with fail
                with_reducible refine (termOk_any _ _ _ _ hMt22).mono ?_
                rintro e w23 ⟨rfl, hnn⟩
                have hB23 : Below w1.heap.size w1 w23 := by (repeat (first | (with_reducible assumption) | (with_reducible exact Below.refl _ _) | ((with_reducible refine Below.alloc ?_ ?hsz _); (case hsz => (first | omega | (simp; done) | (simp; omega) | (simp at *; omega)))) | ((with_reducible refine Below.setCell ?_ ?hsz _); (case hsz => (first | omega | (simp; done) | (simp; omega) | (simp at *; omega)))) | (with_reducible refine Below.drew ?_) | (with_reducible refine below_drewN ?_ _) | ((with_reducible refine Below.trans ?_ (Below.mono (by with_reducible assumption) ?hsz)); (case hsz => (first | omega | (simp; done) | (simp; omega) | (simp at *; omega))))))
                have hzw23 := (hB23).size
                have hnw23 := hnn
                clear hnn
                rw [HT.out]
                have hMt23 := hMt22.keep hnw23
                go_wp2_with fail
                with_reducible refine (carriesOf_any _ _ _ _ hMt23).mono ?_
                rintro e w24 ⟨rfl, hnn⟩
                have hB24 : Below w1.heap.size w1 w24 := by (repeat (first | (with_reducible assumption) | (with_reducible exact Below.refl _ _) | ((with_reducible refine Below.alloc ?_ ?hsz _); (case hsz => (first | omega | (simp; done) | (simp; omega) | (simp at *; omega)))) | ((with_reducible refine Below.setCell ?_ ?hsz _); (case hsz => (first | omega | (simp; done) | (simp; omega) | (simp at *; omega)))) | (with_reducible refine Below.drew ?_) | (with_reducible refine below_drewN ?_ _) | ((with_reducible refine Below.trans ?_ (Below.mono (by with_reducible assumption) ?hsz)); (case hsz => (first | omega | (simp; done) | (simp; omega) | (simp at *; omega))))))
                have hzw24 := (hB24).size
                have hnw24 := hnn
                clear hnn
                rw [HCT.out]
                go_wp2
                (go_ret; exact ⟨rfl, hBw1.trans (Below.mono (by with_reducible assumption) hBw1.size)⟩)
              | true =>
                have HCB := Lib.hid (show carriesN (ts ++ us ++ [⟨2, 0, 0⟩]) = na + nb by
                  have h := two_carry true HA.out HBt.out HS.out
                  rw [HNA.out, HNB.out] at h
                  exact h)
                go_wp2_with fail
                with_reducible refine (carriesOf_any _ _ _ _ hMb22).mono ?_
                rintro e w23a ⟨rfl, hnn⟩
                have hB23a : Below w1.heap.size w1 w23a := by (repeat (first | (with_reducible assumption) | (with_reducible exact Below.refl _ _) | ((with_reducible refine Below.alloc ?_ ?hsz _); (case hsz => (first | omega | (simp; done) | (simp; omega) | (simp at *; omega)))) | ((with_reducible refine Below.setCell ?_ ?hsz _); (case hsz => (first | omega | (simp; done) | (simp; omega) | (simp at *; omega)))) | (with_reducible refine Below.drew ?_) | (with_reducible refine below_drewN ?_ _) | ((with_reducible refine Below.trans ?_ (Below.mono (by with_reducible assumption) ?hsz)); (case hsz => (first | omega | (simp; done) | (simp; omega) | (simp at *; omega))))))
                have hzw23a := (hB23a).size
                have hnw23a := hnn
                clear hnn
                rw [HCB.out]
                have hMt23a := hMt22.keep hnw23a
                go_wp2_with fail
                with_reducible refine (termOk_any _ _ _ _ hMt23a).mono ?_
                rintro e w23 ⟨rfl, hnn⟩
                have hB23 : Below w1.heap.size w1 w23 := by (repeat (first | (with_reducible assumption) | (with_reducible exact Below.refl _ _) | ((with_reducible refine Below.alloc ?_ ?hsz _); (case hsz => (first | omega | (simp; done) | (simp; omega) | (simp at *; omega)))) | ((with_reducible refine Below.setCell ?_ ?hsz _); (case hsz => (first | omega | (simp; done) | (simp; omega) | (simp at *; omega)))) | (with_reducible refine Below.drew ?_) | (with_reducible refine below_drewN ?_ _) | ((with_reducible refine Below.trans ?_ (Below.mono (by with_reducible assumption) ?hsz)); (case hsz => (first | omega | (simp; done) | (simp; omega) | (simp at *; omega))))))
                have hzw23 := (hB23).size
                have hnw23 := hnn
                clear hnn
                rw [HT.out]
                have hMt23 := hMt23a.keep hnw23
                go_wp2_with fail
                with_reducible refine (carriesOf_any _ _ _ _ hMt23).mono ?_
                rintro e w24 ⟨rfl, hnn⟩
                have hB24 : Below w1.heap.size w1 w24 := by (repeat (first | (with_reducible assumption) | (with_reducible exact Below.refl _ _) | ((with_reducible refine Below.alloc ?_ ?hsz _); (case hsz => (first | omega | (simp; done) | (simp; omega) | (simp at *; omega)))) | ((with_reducible refine Below.setCell ?_ ?hsz _); (case hsz => (first | omega | (simp; done) | (simp; omega) | (simp at *; omega)))) | (with_reducible refine Below.drew ?_) | (with_reducible refine below_drewN ?_ _) | ((with_reducible refine Below.trans ?_ (Below.mono (by with_reducible assumption) ?hsz)); (case hsz => (first | omega | (simp; done) | (simp; omega) | (simp at *; omega))))))
                have hzw24 := (hB24).size
                have hnw24 := hnn
                clear hnn
                rw [HCT.out]
                go_wp2
                (go_ret; exact ⟨rfl, hBw1.trans (Below.mono (by with_reducible assumption) hBw1.size)⟩)

set_option maxRecDepth 100000 in
theorem contract (H : Type) (enc : TypeId × Value → H) (W : World) (base : Nat) (args : Array Value) (ds gs : List (DataW H)) (before : List MemPlace)
    (hval : ∀ (j : Nat) t v, Try.f7.params[j]? = some t → args[j]? = some v → Value.okWide Try.prog W .any base t v)
    (hW : DataW.Whole enc Try.prog Try.f7.params.toList Rows.fnTogetherSpec.vars false W args.toList ds gs before) :
    Calls Try.prog 7 args W fun e W' => ∃ v, e = .returned v ∧ Rows.fnTogetherSpec.post enc Try.prog Try.f7 false true false false W args v W' := by
  have hW' := hW
  obtain ⟨p, q, hA0, hV, rfl, hfz, hnd⟩ := hW
  have hA : DataW.TrodAll enc Try.prog W 0 (fun _ => true) true Try.f7.params.toList args.toList ds p := hA0
  rw [Try.params7] at hA hval
  obtain ⟨u0, us0, d0, ds0, p0, q0, hargs, rfl, rfl, g0, k0⟩ := trodAll_cons hA
  obtain ⟨u1, us1, d1, ds1, p1, q1, rfl, rfl, rfl, g1, k1⟩ := trodAll_cons k0
  obtain ⟨rfl, rfl, rfl⟩ := trodAll_nil k1
  obtain rfl : args = #[u0, u1] := by cases args; simp_all
  obtain ⟨rfl, rfl⟩ := trodVars_none hV
  obtain ⟨m0, e0⟩ := g0
  obtain ⟨s0, l0, f0, hh0⟩ := open_arg_bytes e0
  have f0' := one_of_cells Try.underlying22 (hval 0 _ _ rfl rfl) f0
  subst f0'
  obtain ⟨m1, e1⟩ := g1
  obtain ⟨s1, l1, f1, hh1⟩ := open_arg_bytes e1
  have f1' := one_of_cells Try.underlying22 (hval 1 _ _ rfl rfl) f1
  subst f1'
  refine (walk _ _ l0 l1 W hh0 hh1).mono fun e W' ⟨he, hb⟩ => ?_
  subst he
  exact ⟨_, rfl, law_post Try.kids Try.full (by rw [Try.params7]; decide) rfl rfl Try.underlying4 hW' rfl rfl rfl hb⟩

set_option maxRecDepth 100000 in
theorem lifted (os : Os) (started : os.Started) (H : Type) (enc : TypeId × Value → H) :
    ReturnsInHanded {} Try.checked os 7 .any (Rows.fnTogetherSpec.pre6 enc Try.prog Try.f7 Rows.fnTogetherRow.domain false) (Rows.fnTogetherSpec.post enc Try.prog Try.f7 false true false false) := by
  refine returnsInHanded_of_change (C := Try.checked) Try.own started (by kernel_rfl) Try.func7
    (ChangeSpec.witness6 (enc := enc) (C := Try.checked) false ⟨#[], #[.slice none 0 0, .slice none 0 0], []⟩ 8 (by kernel_rfl) (by kernel_rfl) (by kernel_rfl) (by kernel_rfl)) ?_
  intro W base args ds gs before hval0 hW _ _
  exact contract H enc W base args ds gs before hval0 hW

theorem proved : Rows.FnTogetherSaid :=
  OpenClaim.holds_of_wide 7 Try.f7 rfl rfl rfl rfl rfl rfl rfl ⟨rfl, rfl, rfl, rfl, rfl⟩ rfl rfl rfl rfl rfl (by kernel_rfl) Try.func7 (by kernel_rfl)
    (of_decide_eq_true (by kernel_rfl)) (by unfold Func.isWrapper; first | (rw [if_pos (by decide +kernel)]; kernel_rfl) | (rw [if_neg (by decide +kernel)]; exact ⟨rfl, rfl⟩))
    (fun os started H enc _ => lifted os started H enc)

end Go.Proofs.Ytnefafpfeagflaa.lawTogether
