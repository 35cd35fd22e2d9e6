/- Contracts of the functions of chapter 3 in the program: pushes along a way. -/
import Derived.Test.YtlaeckjfjleplaaWF
import Derived.Deep.DeepCutAuto
import Derived.Deep.RegionWith
import Derived.Lib.BufferMore
namespace Go.Proofs.Ytlaeckjfjleplaa
open Go.RowKit

set_option maxHeartbeats 1000000 in
set_option maxRecDepth 20000 in
theorem clone_any (v : Value) (xs : List Int) (b : Nat) (w : World) (hx : Ints w b v xs) (h0 : 0 < xs.length) :
    Calls Try.prog 108 #[v] w fun e w' => ∃ g cap, e = .returned (.slice (some ⟨g, 0, none⟩) xs.length cap) ∧ Row w' w.heap.size g xs.length cap xs ∧ Below w.heap.size w w' := by
  obtain ⟨g, cap, rfl, hR⟩ := hx.row h0
  obtain ⟨hg1, hg2⟩ := hR.lt
  obtain ⟨hcl1, hcl2⟩ := hR.capd
  obtain ⟨i0, hi0, hz0, hz1, hz2⟩ := info_parts int_info
  have hsm := hR.2
  have hnews : Hid (∀ j u, (xs.map (Value.int .i64))[j]? = some u → (w.alloc (.cells #[] 3)).cell? ((⟨g, 0, none⟩ : Addr).add j) = some u) := Lib.hid (by
    intro j u hj
    have hjl : j < xs.length := by
      have := (List.getElem?_eq_some_iff.1 hj).1
      simpa using this
    rw [add_plain, Nat.zero_add]
    refine (World.cell?_alloc_lt _ _ _ (by simpa using hg2)).trans ?_
    rw [(hR.at' j hjl).1, ← hj]
    simp [List.getD_eq_getElem?_getD, hjl])
  have hnil : ∀ W : World, (binOp .eql 26 (.slice (some ⟨g, 0, none⟩) xs.length cap) (.slice none 0 0)).run Try.prog W = .ok (.bool false) W := fun W => Lib.run_eql_slice_some_nil W _ _ _ Try.underlying26
  have hown0 := World.ownsRow_lit (e := 3) (base := w.heap.size) (size := 1) w #[] 0 (Nat.le_refl _) (by simp [maxLen]) rfl
  go_enter Try.func108, Try.ntmps108
  go_wp2_with (first
    | (at_builtin
       go_must (refine wpList_append_lies _ rfl _ _ 26 rfl w.heap.size 3 i0 _ 1 8 Try.underlying26 hi0 hz0 hz1 hz2 rfl (by omega) _ 0 [] rfl hown0 ⟨g, 0, none⟩ xs.length cap (xs.map (Value.int .i64)) rfl (by simp) hnews.out (by simp [Value.oneCell']) h0 (by unfold maxLen small at *; omega) (by unfold small at *; omega) (by simp) _ rfl ?_)
       intro g2 k2 w7 hown7 hgr7 hat7 hlt7))
  go_ret
  rw [Nat.zero_add, List.nil_append] at hown7
  refine ⟨g2, k2, rfl, ⟨hown7, hsm⟩, ?_⟩
  exact Below.grown (w := w.alloc (.cells #[] 3)) (by (repeat (first | (with_reducible assumption) | (with_reducible exact Below.refl _ _) | ((with_reducible refine Below.alloc ?_ ?hsz _); (case hsz => (first | omega | (simp; done) | (simp; omega) | (simp at *; omega)))) | ((with_reducible refine Below.setCell ?_ ?hsz _); (case hsz => (first | omega | (simp; done) | (simp; omega) | (simp at *; omega)))) | (with_reducible refine Below.drew ?_) | (with_reducible refine below_drewN ?_ _) | ((with_reducible refine Below.trans ?_ (Below.mono (by with_reducible assumption) ?hsz)); (case hsz => (first | omega | (simp; done) | (simp; omega) | (simp at *; omega))))))) hgr7 (by (first | omega | (simp; done) | (simp; omega) | (simp at *; omega))) (fun q hq => by
    have hq' : w.heap.size = q := by injection hq
    omega)

end Go.Proofs.Ytlaeckjfjleplaa
