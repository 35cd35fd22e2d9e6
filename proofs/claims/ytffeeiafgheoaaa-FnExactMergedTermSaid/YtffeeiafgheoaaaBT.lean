/- Contracts of the functions of chapter 9 in the model: MergedTerm. -/
import Derived.Test.YtffeeiafgheoaaaBR
import Derived.Test.YtffeeiafgheoaaaBM
import Derived.Test.YtffeeiafgheoaaaAS
import Derived.Test.YtffeeiafgheoaaaHB
import Derived.Deep.DeepCutAuto
namespace Go.Proofs.Ytffeeiafgheoaaa
open Go.RowKit

set_option maxHeartbeats 4000000 in
set_option maxRecDepth 20000 in
theorem specMerged_any (v : Value) (ts : List Mk) (b : Nat) (w : World) (hm : Marks w b v ts) :
    Calls Try.prog 28 #[v] w fun e w' => ∃ r, e = .returned r ∧ Marks w' w.heap.size r (mergedR ts) ∧ Below w.heap.size w w' := by
  obtain ⟨A, c, rfl, hc1, hc2, -, -⟩ := hm.form
  unfold maxLen at hc2
  cases ht : termB ts
  · have HR := Lib.hid (show mergedR ts = [] by simp [mergedR, ht])
    go_enter Try.func28, Try.ntmps28
    go_wp2_with fail
    refine (specTermOk_any _ ts b _ hm).mono ?_
    rintro e w1 ⟨rfl, hb1⟩
    rw [ht]
    have hz1 := hb1.size
    have hfin : Marks (w1.alloc (.cells #[] 51)) w.heap.size (.slice (some ⟨w1.heap.size, 0, none⟩) 0 0) [] := ⟨lit_own0 hz1 (heap_alloc_new _ _), by simp [small]⟩
    go_wp2_with fail
    go_ret
    exact ⟨_, rfl, by rw [HR.out]; exact hfin, by (repeat (first | (with_reducible assumption) | (with_reducible exact Below.refl _ _) | ((with_reducible refine Below.alloc ?_ ?hsz _); (case hsz => (first | omega | (simp; done) | (simp; omega) | (simp at *; omega)))) | ((with_reducible refine Below.setCell ?_ ?hsz _); (case hsz => (first | omega | (simp; done) | (simp; omega) | (simp at *; omega)))) | (with_reducible refine Below.drew ?_) | (with_reducible refine below_drewN ?_ _) | ((with_reducible refine Below.trans ?_ (Below.mono (by with_reducible assumption) ?hsz)); (case hsz => (first | omega | (simp; done) | (simp; omega) | (simp at *; omega))))))⟩
  · obtain ⟨hT, hg, h7, -⟩ := term_of ht
    have HR := Lib.hid (show mergedR ts = (tmOf ts).merged.marks by simp [mergedR, ht])
    have HT := Lib.hid (And.intro hT (And.intro hg h7))
    clear hT hg h7
    go_enter Try.func28, Try.ntmps28
    go_wp2_with fail
    refine (specTermOk_any _ ts b _ hm).mono ?_
    rintro e w1 ⟨rfl, hb1⟩
    rw [ht]
    have hA2 : ArgMarks w1 (.slice A ts.length c) (tmOf ts).marks := by rw [← HT.out.1]; exact hm.arg.keep hb1
    have hz1 := hb1.size
    go_wp2_with fail
    refine (l9Merged_any (tmOf ts) HT.out.2.1 HT.out.2.2 _ _ hA2).mono ?_
    rintro e w2 ⟨r, rfl, hr, hb2⟩
    have hbF : Below w.heap.size w w2 := hb1.trans (hb2.mono hz1)
    have hfin := hr.mono hz1
    clear hb1 hb2 hr hA2
    go_wp2_with fail
    go_ret
    exact ⟨_, rfl, by rw [HR.out]; exact hfin, hbF⟩

end Go.Proofs.Ytffeeiafgheoaaa
