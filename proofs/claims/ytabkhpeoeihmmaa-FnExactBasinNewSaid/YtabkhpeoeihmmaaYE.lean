/- Contracts of the functions of chapter 12 in the program: steep steps, BasinOk. -/
import Derived.Test.YtabkhpeoeihmmaaYD
namespace Go.Proofs.Ytabkhpeoeihmmaa
open Go.RowKit

section
variable {del : Int → Bool} {bh : Nat}
set_option maxHeartbeats 1000000 in
set_option maxRecDepth 20000 in
theorem indexSteep_any (u : Value) (xs : List Int) (b : Nat) (w : World) (hx : Ints w b u xs)
    (hcl : ∀ W, Below w.heap.size w W → ∀ x ∈ xs, Calls Try.prog 101 #[.int .i64 x, .pointer (some ⟨bh, 0, none⟩)] W fun e w' => e = .returned (.bool (del x)) ∧ Below W.heap.size W w') :
    Calls Try.prog 107 #[u, .func (Fn.func 101) #[] #[.pointer (some ⟨bh, 0, none⟩)]] w fun e w' => ∃ r : Int, e = .returned (.int .i64 r) ∧ ((r = -1 ∧ ∀ x ∈ xs, del x = false) ∨ ∃ j : Nat, r = (j : Int) ∧ j < xs.length ∧ del (xs.getD j 0) = true ∧ ∀ x ∈ xs.take j, del x = false) ∧ Below w.heap.size w w' := by
  obtain ⟨A0, c0, rfl, hc1, hc2, hs, hcell⟩ := hx.form
  unfold maxLen at hc2
  go_enter Try.func107, Try.ntmps107
  go_wp2
  go_loopw [8] (fun i wr => ∃ k : Nat, k ≤ xs.length ∧ i = .int .i64 k ∧ (∀ x ∈ xs.take k, del x = false) ∧ Below w.heap.size w wr) (fun i _ => xs.length - (intOf i).toNat)
  case atStart => exact ⟨0, by omega, rfl, by simp, Below.refl _ _⟩
  case round =>
    obtain ⟨k, hk, rfl, hall, hb⟩ := hrel
    have Hall := Lib.hid hall
    clear hall
    have hzb := hb.size
    by_cases hlt : k < xs.length
    · obtain ⟨g, rfl, hg1, hg2, cx, -⟩ := hcell wr hb k hlt
      have hgr : g < wr.heap.size := by omega
      by_cases hz : del xs[k] = true
      · go_wp2_with fail
        refine (hcl _ (by (repeat (first | (with_reducible assumption) | (with_reducible exact Below.refl _ _) | ((with_reducible refine Below.alloc ?_ ?hsz _); (case hsz => (first | omega | (simp; done) | (simp; omega) | (simp at *; omega)))) | ((with_reducible refine Below.setCell ?_ ?hsz _); (case hsz => (first | omega | (simp; done) | (simp; omega) | (simp at *; omega)))) | (with_reducible refine Below.drew ?_) | (with_reducible refine below_drewN ?_ _) | ((with_reducible refine Below.trans ?_ (Below.mono (by with_reducible assumption) ?hsz)); (case hsz => (first | omega | (simp; done) | (simp; omega) | (simp at *; omega))))))) xs[k] (List.getElem_mem hlt)).mono ?_
        rintro e w1 ⟨rfl, hb1⟩
        rw [hz]
        have Hz := Lib.hid hz
        clear hz
        go_wp2
        go_ret
        exact ⟨_, rfl, .inr ⟨k, rfl, hlt, by rw [getD_at hlt]; exact Hz.out, Hall.out⟩, by (repeat (first | (with_reducible assumption) | (with_reducible exact Below.refl _ _) | ((with_reducible refine Below.alloc ?_ ?hsz _); (case hsz => (first | omega | (simp; done) | (simp; omega) | (simp at *; omega)))) | ((with_reducible refine Below.setCell ?_ ?hsz _); (case hsz => (first | omega | (simp; done) | (simp; omega) | (simp at *; omega)))) | (with_reducible refine Below.drew ?_) | (with_reducible refine below_drewN ?_ _) | ((with_reducible refine Below.trans ?_ (Below.mono (by with_reducible assumption) ?hsz)); (case hsz => (first | omega | (simp; done) | (simp; omega) | (simp at *; omega))))))⟩
      · have hz' : del xs[k] = false := by simpa using hz
        have Hn := Lib.hid (show ∀ x ∈ xs.take (k + 1), del x = false by
          intro x hx
          rw [List.take_succ_eq_append_getElem hlt, List.mem_append] at hx
          rcases hx with hx | hx
          · exact Hall.out x hx
          · simp only [List.mem_singleton] at hx
            rw [hx]; exact hz')
        clear hz
        go_wp2_with fail
        refine (hcl _ (by (repeat (first | (with_reducible assumption) | (with_reducible exact Below.refl _ _) | ((with_reducible refine Below.alloc ?_ ?hsz _); (case hsz => (first | omega | (simp; done) | (simp; omega) | (simp at *; omega)))) | ((with_reducible refine Below.setCell ?_ ?hsz _); (case hsz => (first | omega | (simp; done) | (simp; omega) | (simp at *; omega)))) | (with_reducible refine Below.drew ?_) | (with_reducible refine below_drewN ?_ _) | ((with_reducible refine Below.trans ?_ (Below.mono (by with_reducible assumption) ?hsz)); (case hsz => (first | omega | (simp; done) | (simp; omega) | (simp at *; omega))))))) xs[k] (List.getElem_mem hlt)).mono ?_
        rintro e w1 ⟨rfl, hb1⟩
        rw [hz']
        go_wp2
        go_roundw
        case rel => exact ⟨k + 1, by omega, by go_num, Hn.out, by (repeat (first | (with_reducible assumption) | (with_reducible exact Below.refl _ _) | ((with_reducible refine Below.alloc ?_ ?hsz _); (case hsz => (first | omega | (simp; done) | (simp; omega) | (simp at *; omega)))) | ((with_reducible refine Below.setCell ?_ ?hsz _); (case hsz => (first | omega | (simp; done) | (simp; omega) | (simp at *; omega)))) | (with_reducible refine Below.drew ?_) | (with_reducible refine below_drewN ?_ _) | ((with_reducible refine Below.trans ?_ (Below.mono (by with_reducible assumption) ?hsz)); (case hsz => (first | omega | (simp; done) | (simp; omega) | (simp at *; omega))))))⟩
        case measure => simp [intOf]; omega
    · go_wp2
      go_ret
      have hk2 : k = xs.length := by omega
      subst hk2
      rw [List.take_length] at Hall
      exact ⟨_, rfl, .inl ⟨rfl, Hall.out⟩, by (repeat (first | (with_reducible assumption) | (with_reducible exact Below.refl _ _) | ((with_reducible refine Below.alloc ?_ ?hsz _); (case hsz => (first | omega | (simp; done) | (simp; omega) | (simp at *; omega)))) | ((with_reducible refine Below.setCell ?_ ?hsz _); (case hsz => (first | omega | (simp; done) | (simp; omega) | (simp at *; omega)))) | (with_reducible refine Below.drew ?_) | (with_reducible refine below_drewN ?_ _) | ((with_reducible refine Below.trans ?_ (Below.mono (by with_reducible assumption) ?hsz)); (case hsz => (first | omega | (simp; done) | (simp; omega) | (simp at *; omega))))))⟩

end


section
variable {del : Int → Bool} {bh : Nat}
set_option maxHeartbeats 1000000 in
set_option maxRecDepth 20000 in
theorem indexDown_any (u : Value) (xs : List Int) (b : Nat) (w : World) (hx : Ints w b u xs)
    (hcl : ∀ W, Below w.heap.size w W → ∀ x ∈ xs, Calls Try.prog 108 #[.int .i64 x, .pointer (some ⟨bh, 0, none⟩)] W fun e w' => e = .returned (.bool (del x)) ∧ Below W.heap.size W w') :
    Calls Try.prog 107 #[u, .func (Fn.func 108) #[] #[.pointer (some ⟨bh, 0, none⟩)]] w fun e w' => ∃ r : Int, e = .returned (.int .i64 r) ∧ ((r = -1 ∧ ∀ x ∈ xs, del x = false) ∨ ∃ j : Nat, r = (j : Int) ∧ j < xs.length ∧ del (xs.getD j 0) = true ∧ ∀ x ∈ xs.take j, del x = false) ∧ Below w.heap.size w w' := by
  obtain ⟨A0, c0, rfl, hc1, hc2, hs, hcell⟩ := hx.form
  unfold maxLen at hc2
  go_enter Try.func107, Try.ntmps107
  go_wp2
  go_loopw [8] (fun i wr => ∃ k : Nat, k ≤ xs.length ∧ i = .int .i64 k ∧ (∀ x ∈ xs.take k, del x = false) ∧ Below w.heap.size w wr) (fun i _ => xs.length - (intOf i).toNat)
  case atStart => exact ⟨0, by omega, rfl, by simp, Below.refl _ _⟩
  case round =>
    obtain ⟨k, hk, rfl, hall, hb⟩ := hrel
    have Hall := Lib.hid hall
    clear hall
    have hzb := hb.size
    by_cases hlt : k < xs.length
    · obtain ⟨g, rfl, hg1, hg2, cx, -⟩ := hcell wr hb k hlt
      have hgr : g < wr.heap.size := by omega
      by_cases hz : del xs[k] = true
      · go_wp2_with fail
        refine (hcl _ (by (repeat (first | (with_reducible assumption) | (with_reducible exact Below.refl _ _) | ((with_reducible refine Below.alloc ?_ ?hsz _); (case hsz => (first | omega | (simp; done) | (simp; omega) | (simp at *; omega)))) | ((with_reducible refine Below.setCell ?_ ?hsz _); (case hsz => (first | omega | (simp; done) | (simp; omega) | (simp at *; omega)))) | (with_reducible refine Below.drew ?_) | (with_reducible refine below_drewN ?_ _) | ((with_reducible refine Below.trans ?_ (Below.mono (by with_reducible assumption) ?hsz)); (case hsz => (first | omega | (simp; done) | (simp; omega) | (simp at *; omega))))))) xs[k] (List.getElem_mem hlt)).mono ?_
        rintro e w1 ⟨rfl, hb1⟩
        rw [hz]
        have Hz := Lib.hid hz
        clear hz
        go_wp2
        go_ret
        exact ⟨_, rfl, .inr ⟨k, rfl, hlt, by rw [getD_at hlt]; exact Hz.out, Hall.out⟩, by (repeat (first | (with_reducible assumption) | (with_reducible exact Below.refl _ _) | ((with_reducible refine Below.alloc ?_ ?hsz _); (case hsz => (first | omega | (simp; done) | (simp; omega) | (simp at *; omega)))) | ((with_reducible refine Below.setCell ?_ ?hsz _); (case hsz => (first | omega | (simp; done) | (simp; omega) | (simp at *; omega)))) | (with_reducible refine Below.drew ?_) | (with_reducible refine below_drewN ?_ _) | ((with_reducible refine Below.trans ?_ (Below.mono (by with_reducible assumption) ?hsz)); (case hsz => (first | omega | (simp; done) | (simp; omega) | (simp at *; omega))))))⟩
      · have hz' : del xs[k] = false := by simpa using hz
        have Hn := Lib.hid (show ∀ x ∈ xs.take (k + 1), del x = false by
          intro x hx
          rw [List.take_succ_eq_append_getElem hlt, List.mem_append] at hx
          rcases hx with hx | hx
          · exact Hall.out x hx
          · simp only [List.mem_singleton] at hx
            rw [hx]; exact hz')
        clear hz
        go_wp2_with fail
        refine (hcl _ (by (repeat (first | (with_reducible assumption) | (with_reducible exact Below.refl _ _) | ((with_reducible refine Below.alloc ?_ ?hsz _); (case hsz => (first | omega | (simp; done) | (simp; omega) | (simp at *; omega)))) | ((with_reducible refine Below.setCell ?_ ?hsz _); (case hsz => (first | omega | (simp; done) | (simp; omega) | (simp at *; omega)))) | (with_reducible refine Below.drew ?_) | (with_reducible refine below_drewN ?_ _) | ((with_reducible refine Below.trans ?_ (Below.mono (by with_reducible assumption) ?hsz)); (case hsz => (first | omega | (simp; done) | (simp; omega) | (simp at *; omega))))))) xs[k] (List.getElem_mem hlt)).mono ?_
        rintro e w1 ⟨rfl, hb1⟩
        rw [hz']
        go_wp2
        go_roundw
        case rel => exact ⟨k + 1, by omega, by go_num, Hn.out, by (repeat (first | (with_reducible assumption) | (with_reducible exact Below.refl _ _) | ((with_reducible refine Below.alloc ?_ ?hsz _); (case hsz => (first | omega | (simp; done) | (simp; omega) | (simp at *; omega)))) | ((with_reducible refine Below.setCell ?_ ?hsz _); (case hsz => (first | omega | (simp; done) | (simp; omega) | (simp at *; omega)))) | (with_reducible refine Below.drew ?_) | (with_reducible refine below_drewN ?_ _) | ((with_reducible refine Below.trans ?_ (Below.mono (by with_reducible assumption) ?hsz)); (case hsz => (first | omega | (simp; done) | (simp; omega) | (simp at *; omega))))))⟩
        case measure => simp [intOf]; omega
    · go_wp2
      go_ret
      have hk2 : k = xs.length := by omega
      subst hk2
      rw [List.take_length] at Hall
      exact ⟨_, rfl, .inl ⟨rfl, Hall.out⟩, by (repeat (first | (with_reducible assumption) | (with_reducible exact Below.refl _ _) | ((with_reducible refine Below.alloc ?_ ?hsz _); (case hsz => (first | omega | (simp; done) | (simp; omega) | (simp at *; omega)))) | ((with_reducible refine Below.setCell ?_ ?hsz _); (case hsz => (first | omega | (simp; done) | (simp; omega) | (simp at *; omega)))) | (with_reducible refine Below.drew ?_) | (with_reducible refine below_drewN ?_ _) | ((with_reducible refine Below.trans ?_ (Below.mono (by with_reducible assumption) ?hsz)); (case hsz => (first | omega | (simp; done) | (simp; omega) | (simp at *; omega))))))⟩

end


section
variable {del : Int → Bool} {bh bn : Nat}
set_option maxHeartbeats 1000000 in
set_option maxRecDepth 20000 in
theorem indexFrom_any (u : Value) (xs : List Int) (b : Nat) (w : World) (hx : Ints w b u xs)
    (hcl : ∀ W, Below w.heap.size w W → ∀ x ∈ xs, Calls Try.prog 132 #[.int .i64 x, .pointer (some ⟨bh, 0, none⟩), .pointer (some ⟨bn, 0, none⟩)] W fun e w' => e = .returned (.bool (del x)) ∧ Below W.heap.size W w') :
    Calls Try.prog 107 #[u, .func (Fn.func 132) #[] #[.pointer (some ⟨bh, 0, none⟩), .pointer (some ⟨bn, 0, none⟩)]] w fun e w' => ∃ r : Int, e = .returned (.int .i64 r) ∧ ((r = -1 ∧ ∀ x ∈ xs, del x = false) ∨ ∃ j : Nat, r = (j : Int) ∧ j < xs.length ∧ del (xs.getD j 0) = true ∧ ∀ x ∈ xs.take j, del x = false) ∧ Below w.heap.size w w' := by
  obtain ⟨A0, c0, rfl, hc1, hc2, hs, hcell⟩ := hx.form
  unfold maxLen at hc2
  go_enter Try.func107, Try.ntmps107
  go_wp2
  go_loopw [8] (fun i wr => ∃ k : Nat, k ≤ xs.length ∧ i = .int .i64 k ∧ (∀ x ∈ xs.take k, del x = false) ∧ Below w.heap.size w wr) (fun i _ => xs.length - (intOf i).toNat)
  case atStart => exact ⟨0, by omega, rfl, by simp, Below.refl _ _⟩
  case round =>
    obtain ⟨k, hk, rfl, hall, hb⟩ := hrel
    have Hall := Lib.hid hall
    clear hall
    have hzb := hb.size
    by_cases hlt : k < xs.length
    · obtain ⟨g, rfl, hg1, hg2, cx, -⟩ := hcell wr hb k hlt
      have hgr : g < wr.heap.size := by omega
      by_cases hz : del xs[k] = true
      · go_wp2_with fail
        refine (hcl _ (by (repeat (first | (with_reducible assumption) | (with_reducible exact Below.refl _ _) | ((with_reducible refine Below.alloc ?_ ?hsz _); (case hsz => (first | omega | (simp; done) | (simp; omega) | (simp at *; omega)))) | ((with_reducible refine Below.setCell ?_ ?hsz _); (case hsz => (first | omega | (simp; done) | (simp; omega) | (simp at *; omega)))) | (with_reducible refine Below.drew ?_) | (with_reducible refine below_drewN ?_ _) | ((with_reducible refine Below.trans ?_ (Below.mono (by with_reducible assumption) ?hsz)); (case hsz => (first | omega | (simp; done) | (simp; omega) | (simp at *; omega))))))) xs[k] (List.getElem_mem hlt)).mono ?_
        rintro e w1 ⟨rfl, hb1⟩
        rw [hz]
        have Hz := Lib.hid hz
        clear hz
        go_wp2
        go_ret
        exact ⟨_, rfl, .inr ⟨k, rfl, hlt, by rw [getD_at hlt]; exact Hz.out, Hall.out⟩, by (repeat (first | (with_reducible assumption) | (with_reducible exact Below.refl _ _) | ((with_reducible refine Below.alloc ?_ ?hsz _); (case hsz => (first | omega | (simp; done) | (simp; omega) | (simp at *; omega)))) | ((with_reducible refine Below.setCell ?_ ?hsz _); (case hsz => (first | omega | (simp; done) | (simp; omega) | (simp at *; omega)))) | (with_reducible refine Below.drew ?_) | (with_reducible refine below_drewN ?_ _) | ((with_reducible refine Below.trans ?_ (Below.mono (by with_reducible assumption) ?hsz)); (case hsz => (first | omega | (simp; done) | (simp; omega) | (simp at *; omega))))))⟩
      · have hz' : del xs[k] = false := by simpa using hz
        have Hn := Lib.hid (show ∀ x ∈ xs.take (k + 1), del x = false by
          intro x hx
          rw [List.take_succ_eq_append_getElem hlt, List.mem_append] at hx
          rcases hx with hx | hx
          · exact Hall.out x hx
          · simp only [List.mem_singleton] at hx
            rw [hx]; exact hz')
        clear hz
        go_wp2_with fail
        refine (hcl _ (by (repeat (first | (with_reducible assumption) | (with_reducible exact Below.refl _ _) | ((with_reducible refine Below.alloc ?_ ?hsz _); (case hsz => (first | omega | (simp; done) | (simp; omega) | (simp at *; omega)))) | ((with_reducible refine Below.setCell ?_ ?hsz _); (case hsz => (first | omega | (simp; done) | (simp; omega) | (simp at *; omega)))) | (with_reducible refine Below.drew ?_) | (with_reducible refine below_drewN ?_ _) | ((with_reducible refine Below.trans ?_ (Below.mono (by with_reducible assumption) ?hsz)); (case hsz => (first | omega | (simp; done) | (simp; omega) | (simp at *; omega))))))) xs[k] (List.getElem_mem hlt)).mono ?_
        rintro e w1 ⟨rfl, hb1⟩
        rw [hz']
        go_wp2
        go_roundw
        case rel => exact ⟨k + 1, by omega, by go_num, Hn.out, by (repeat (first | (with_reducible assumption) | (with_reducible exact Below.refl _ _) | ((with_reducible refine Below.alloc ?_ ?hsz _); (case hsz => (first | omega | (simp; done) | (simp; omega) | (simp at *; omega)))) | ((with_reducible refine Below.setCell ?_ ?hsz _); (case hsz => (first | omega | (simp; done) | (simp; omega) | (simp at *; omega)))) | (with_reducible refine Below.drew ?_) | (with_reducible refine below_drewN ?_ _) | ((with_reducible refine Below.trans ?_ (Below.mono (by with_reducible assumption) ?hsz)); (case hsz => (first | omega | (simp; done) | (simp; omega) | (simp at *; omega))))))⟩
        case measure => simp [intOf]; omega
    · go_wp2
      go_ret
      have hk2 : k = xs.length := by omega
      subst hk2
      rw [List.take_length] at Hall
      exact ⟨_, rfl, .inl ⟨rfl, Hall.out⟩, by (repeat (first | (with_reducible assumption) | (with_reducible exact Below.refl _ _) | ((with_reducible refine Below.alloc ?_ ?hsz _); (case hsz => (first | omega | (simp; done) | (simp; omega) | (simp at *; omega)))) | ((with_reducible refine Below.setCell ?_ ?hsz _); (case hsz => (first | omega | (simp; done) | (simp; omega) | (simp at *; omega)))) | (with_reducible refine Below.drew ?_) | (with_reducible refine below_drewN ?_ _) | ((with_reducible refine Below.trans ?_ (Below.mono (by with_reducible assumption) ?hsz)); (case hsz => (first | omega | (simp; done) | (simp; omega) | (simp at *; omega))))))⟩

set_option maxHeartbeats 4000000 in
set_option maxRecDepth 20000 in
theorem deleteFrom_any (u : Value) (xs : List Int) (B : Nat) (w : World) (hBw : B ≤ w.heap.size) (hx : Ints w B u xs)
    (hcl : ∀ W, Below B w W → ∀ x ∈ xs, Calls Try.prog 132 #[.int .i64 x, .pointer (some ⟨bh, 0, none⟩), .pointer (some ⟨bn, 0, none⟩)] W fun e w' => e = .returned (.bool (del x)) ∧ Below W.heap.size W w') :
    Calls Try.prog 131 #[u, .func (Fn.func 132) #[] #[.pointer (some ⟨bh, 0, none⟩), .pointer (some ⟨bn, 0, none⟩)]] w fun e w' => ∃ r, e = .returned r ∧ Ints w' B r (xs.filter fun x => !del x) ∧ Below B w w' := by
  have hx0 := hx
  obtain ⟨A0, c0, rfl, hc1, hc2, hs, -⟩ := hx.form
  unfold maxLen at hc2
  go_enter Try.func131, Try.ntmps131
  go_wp2_with fail
  refine (indexFrom_any (del := del) (bh := bh) (bn := bn) _ xs B _ (hx0.keep (by (repeat (first | (with_reducible assumption) | (with_reducible exact Below.refl _ _) | ((with_reducible refine Below.alloc ?_ ?hsz _); (case hsz => (first | omega | (simp; done) | (simp; omega) | (simp at *; omega)))) | ((with_reducible refine Below.setCell ?_ ?hsz _); (case hsz => (first | omega | (simp; done) | (simp; omega) | (simp at *; omega)))) | (with_reducible refine Below.drew ?_) | (with_reducible refine below_drewN ?_ _) | ((with_reducible refine Below.trans ?_ (Below.mono (by with_reducible assumption) ?hsz)); (case hsz => (first | omega | (simp; done) | (simp; omega) | (simp at *; omega)))))))) (fun W hW x hx => hcl W ((show Below w.heap.size w W by (repeat (first | (with_reducible assumption) | (with_reducible exact Below.refl _ _) | ((with_reducible refine Below.alloc ?_ ?hsz _); (case hsz => (first | omega | (simp; done) | (simp; omega) | (simp at *; omega)))) | ((with_reducible refine Below.setCell ?_ ?hsz _); (case hsz => (first | omega | (simp; done) | (simp; omega) | (simp at *; omega)))) | (with_reducible refine Below.drew ?_) | (with_reducible refine below_drewN ?_ _) | ((with_reducible refine Below.trans ?_ (Below.mono (by with_reducible assumption) ?hsz)); (case hsz => (first | omega | (simp; done) | (simp; omega) | (simp at *; omega))))))).mono hBw) x hx)).mono ?_
  rintro e w1 ⟨r, rfl, hr, hb1⟩
  rcases hr with ⟨rfl, hall⟩ | ⟨i0, rfl, hi0, hd0, hall⟩
  · have HF := Lib.hid (show (xs.filter fun x => !del x) = xs from List.filter_eq_self.2 fun x hx => by simp [hall x hx])
    clear hall
    go_wp2
    go_ret
    exact ⟨_, rfl, by rw [HF.out]; exact hx0.keep (by (repeat (first | (with_reducible assumption) | (with_reducible exact Below.refl _ _) | ((with_reducible refine Below.alloc ?_ ?hsz _); (case hsz => (first | omega | (simp; done) | (simp; omega) | (simp at *; omega)))) | ((with_reducible refine Below.setCell ?_ ?hsz _); (case hsz => (first | omega | (simp; done) | (simp; omega) | (simp at *; omega)))) | (with_reducible refine Below.drew ?_) | (with_reducible refine below_drewN ?_ _) | ((with_reducible refine Below.trans ?_ (Below.mono (by with_reducible assumption) ?hsz)); (case hsz => (first | omega | (simp; done) | (simp; omega) | (simp at *; omega))))))), (show Below w.heap.size w w1 by (repeat (first | (with_reducible assumption) | (with_reducible exact Below.refl _ _) | ((with_reducible refine Below.alloc ?_ ?hsz _); (case hsz => (first | omega | (simp; done) | (simp; omega) | (simp at *; omega)))) | ((with_reducible refine Below.setCell ?_ ?hsz _); (case hsz => (first | omega | (simp; done) | (simp; omega) | (simp at *; omega)))) | (with_reducible refine Below.drew ?_) | (with_reducible refine below_drewN ?_ _) | ((with_reducible refine Below.trans ?_ (Below.mono (by with_reducible assumption) ?hsz)); (case hsz => (first | omega | (simp; done) | (simp; omega) | (simp at *; omega))))))).mono hBw⟩
  · obtain ⟨g, cap, hv, hR0⟩ := (hx0.keep hb1).row (by omega)
    injection hv with e1 e2 e3
    subst e1
    subst e3
    have hz1 := hb1.size
    obtain ⟨hgB, hgw⟩ := hR0.lt
    have HK0 := Lib.hid (show (xs.take (i0 + 1)).filter (fun x => !del x) = xs.take i0 by
      rw [List.take_succ_eq_append_getElem hi0, List.filter_append]
      rw [getD_at hi0] at hd0
      rw [List.filter_eq_self.2 fun x hx => by simp [hall x hx]]
      simp [hd0])
    obtain ⟨m, hm⟩ : ∃ m, xs.length = m := ⟨_, rfl⟩
    have HM := Lib.hid hm
    rw [hm] at hi0 hR0 hc1 hs ⊢
    clear hall hd0 hm
    have hne : ((i0 : Int) == -1) = false := by rw [beq_eq_false_iff_ne]; omega
    go_wp2_with fail
    try rw [hne]
    go_loopw [5, 6, 7] (fun a c v wr => ∃ (i j : Nat) (zs : List Int), a = .int .i64 i ∧ c = .int .i64 j ∧ i < j ∧ j ≤ m ∧ Row wr B g m c0 zs ∧ (xs.take j).filter (fun x => !del x) = zs.take i ∧ (∀ q, j ≤ q → zs.getD q 0 = xs.getD q 0) ∧ Below B w wr) (fun _ c _ _ => m - (intOf c).toNat)
    case atStart =>
      exact ⟨i0, i0 + 1, xs, rfl, by go_num, by omega, by omega, hR0, HK0.out, fun _ _ => rfl, (show Below w.heap.size w w1 by (repeat (first | (with_reducible assumption) | (with_reducible exact Below.refl _ _) | ((with_reducible refine Below.alloc ?_ ?hsz _); (case hsz => (first | omega | (simp; done) | (simp; omega) | (simp at *; omega)))) | ((with_reducible refine Below.setCell ?_ ?hsz _); (case hsz => (first | omega | (simp; done) | (simp; omega) | (simp at *; omega)))) | (with_reducible refine Below.drew ?_) | (with_reducible refine below_drewN ?_ _) | ((with_reducible refine Below.trans ?_ (Below.mono (by with_reducible assumption) ?hsz)); (case hsz => (first | omega | (simp; done) | (simp; omega) | (simp at *; omega))))))).mono hBw⟩
    case round =>
      obtain ⟨i, j, zs, rfl, rfl, hij, hjm, hR, hk, hq, hb⟩ := hrel
      have hz := hb.size
      have hzl := hR.len
      have hgr := hR.lt.2
      by_cases hlt : j < m
      · have hjx : j < xs.length := by have := HM.out; omega
        obtain ⟨cj, -⟩ := hR.at' j hlt
        obtain ⟨ci, fi⟩ := hR.at' i (by omega)
        rw [hq j (Nat.le_refl _), getD_at hjx] at cj
        have HQ := Lib.hid hq
        have Hk := Lib.hid hk
        have HR := Lib.hid hR
        have Ht := Lib.hid (List.take_succ_eq_append_getElem hjx)
        have hmem := List.getElem_mem hjx
        clear hq hk hR
        generalize zs.getD i 0 = old at ci
        by_cases hd : del xs[j] = true
        · have Hn := Lib.hid (show (xs.take (j + 1)).filter (fun x => !del x) = zs.take i by
            rw [Ht.out, List.filter_append, Hk.out]; simp [hd])
          go_wp2_with fail
          refine (hcl _ hb xs[j] hmem).mono ?_
          rintro e w2 ⟨rfl, hb2⟩
          rw [hd]
          have hz2 := hb2.size
          have HE := Lib.hid (And.intro (HR.out.keep hb2) (hb.trans (hb2.mono (by omega))))
          clear hd hb2
          go_wp2
          go_roundw
          case rel => exact ⟨i, j + 1, zs, rfl, by go_num, by omega, by omega, HE.out.1, Hn.out, fun q hq => HQ.out q (by omega), HE.out.2⟩
          case measure => simp [intOf]; omega
        · have hd' : del xs[j] = false := by simpa using hd
          have Hn := Lib.hid (show (xs.take (j + 1)).filter (fun x => !del x) = (zs.set i xs[j]).take (i + 1) by
            rw [Ht.out, List.filter_append, Hk.out, List.take_succ_eq_append_getElem (by rw [List.length_set]; omega), List.take_set_of_le (Nat.le_refl _)]
            simp [hd'])
          clear hd
          go_wp2_with fail
          refine (hcl _ hb xs[j] hmem).mono ?_
          rintro e w2 ⟨rfl, hb2⟩
          rw [hd']
          have hz2 := hb2.size
          have ci2 := (hb2.cell (p := ⟨g, i, none⟩) hgr).trans ci
          have fi2 := (hb2.frozen (p := ⟨g, i, none⟩) hgr).trans fi
          have HE := Lib.hid (And.intro ((HR.out.keep hb2).set i xs[j]) ((hb.trans (hb2.mono (by omega))).setCell (p := ⟨g, i, none⟩) hgB (.int .i64 xs[j])))
          have him : i < m := by omega
          clear hd' hb2 ci fi cj
          go_wp2
          go_roundw
          case rel => exact ⟨i + 1, j + 1, zs.set i xs[j], by go_num, by go_num, by omega, by omega, HE.out.1, Hn.out, fun q hq => by rw [getD_set9 _ _ _ _ (by omega)]; exact HQ.out q (by omega), HE.out.2⟩
          case measure => simp [intOf]; omega
      · obtain rfl : j = m := by omega
        rw [List.take_of_length_le (by rw [HM.out]; exact Nat.le_refl _)] at hk
        have HQ := Lib.hid hk
        obtain ⟨ZS, hZR, hZt, hZb⟩ := Row.setCells (List.replicate (j - i) 0) i hR (by simp; omega)
        rw [List.map_replicate] at hZR hZb
        have hZB := hZb w B hb hgB
        have hlen : i ≤ j := by omega
        have hfin := hZR.front hlen
        rw [hZt] at hfin
        have HFI := Lib.hid (And.intro hfin hZB)
        have hclr : ∀ ty, (Builtin.clear_ #[25] ty #[.slice (some ⟨g, i, none⟩) (j - i) (c0 - i)]).run Try.prog wr = .ok (.tuple #[]) (wr.setCells g i (List.replicate (j - i) (.int .i64 0))) := fun ty => by
          have h := Lib.run_clear_slice (P := Try.prog) wr 25 3 ty (.int .i64 0) (by kernel_rfl) (fun w => by first | rfl | (simp [go_sem]; done)) rfl rfl g i (j - i) (c0 - i) (by omega) (fun q hq => by rw [(hR.at' (i + q) (by omega)).1]; rfl) (fun q hq => (hR.at' (i + q) (by omega)).2)
          exact h
        have hcp := hR.capd
        unfold maxLen at hcp
        clear hR hk hq hZR hZt hZb hZB hfin
        go_wp2
        go_ret
        exact ⟨_, rfl, by rw [HQ.out]; exact HFI.out.1.ints, HFI.out.2⟩
end


end Go.Proofs.Ytabkhpeoeihmmaa
