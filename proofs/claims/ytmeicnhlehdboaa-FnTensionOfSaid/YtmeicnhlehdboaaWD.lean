/- Contracts of the functions of chapter 3 in the program: steps. -/
import Derived.Test.YtmeicnhlehdboaaWC
import Derived.Test.YtmeicnhlehdboaaW9
import Derived.Test.YtmeicnhlehdboaaMG
import Derived.Deep.RegionHeld3
namespace Go.Proofs.Ytmeicnhlehdboaa
open Go.RowKit

set_option maxHeartbeats 400000 in
set_option maxRecDepth 20000 in
theorem stepBack_any (s : Nat) (w : World) (r : Bool) (hr : decide (s % 2 = 1) = r) (hs : s ≤ 1000) :
    Calls Try.prog 72 #[.int .i64 s] w fun e w' => e = .returned (.bool r) ∧ w = w' := by
  have h1 : (((s : Int) % 2) == 1) = r := by rw [← hr, beq_dec]; congr 1; apply propext; omega
  go_enter Try.func72, Try.ntmps72
  go_wp2
  go_ret
  exact ⟨rfl, rfl⟩

set_option maxHeartbeats 1000000 in
set_option maxRecDepth 20000 in
theorem stepEnds_any (s : Nat) (v : Value) (ps : List Pp) (b : Nat) (w : World) (hp : Pipes w b v ps) (hs : s < 2 * ps.length) (hl : ps.length ≤ 7) :
    Calls Try.prog 68 #[v, .int .i64 s] w fun e w' => e = .returned (.tuple #[.int .i64 (stFr ps s), .int .i64 (stTo ps s)]) ∧ Below w.heap.size w w' := by
  obtain ⟨A, c, rfl, hc1, hc2, hsm, hcell⟩ := hp.form
  unfold maxLen at hc2
  obtain ⟨k, hk⟩ : ∃ k, s / 2 = k := ⟨_, rfl⟩
  have hkl : k < ps.length := by omega
  obtain ⟨g, rfl, hg1, hg2, c0, c1, c2, c3, c4⟩ := hcell w (Below.refl _ _) k hkl
  have hq : (s : Int) / 2 = (k : Int) := by omega
  have hx : k < (ps.map Pp.le).length := by simpa using hkl
  rcases (show s % 2 = 1 ∨ s % 2 = 0 by omega) with hm | hm
  · obtain ⟨e1, e2, -⟩ := st_odd (xs := ps.map Pp.le) hm hk hkl hx
    have He := Lib.hid (And.intro e1 e2)
    have hd := Lib.hid (show decide (s % 2 = 1) = true by simp [hm])
    clear hx e1 e2 hk hm
    go_enter Try.func68, Try.ntmps68
    go_wp2_with (first | (go_at_call 72; ((with_reducible refine (stepBack_any s _ true hd.out (by omega)).mono ?_); rintro e w1 ⟨rfl, rfl⟩)))
    go_quiet (fail)
    go_wp2
    go_ret2
    exact ⟨by rw [He.out.1, He.out.2]; rfl, by (repeat (first | (with_reducible assumption) | (with_reducible exact Below.refl _ _) | ((with_reducible refine Below.alloc ?_ ?hsz _); (case hsz => (first | omega | (simp; done) | (simp; omega) | (simp at *; omega)))) | ((with_reducible refine Below.setCell ?_ ?hsz _); (case hsz => (first | omega | (simp; done) | (simp; omega) | (simp at *; omega)))) | (with_reducible refine Below.drew ?_) | (with_reducible refine below_drewN ?_ _) | ((with_reducible refine Below.trans ?_ (Below.mono (by with_reducible assumption) ?hsz)); (case hsz => (first | omega | (simp; done) | (simp; omega) | (simp at *; omega))))))⟩
  · obtain ⟨e1, e2, -⟩ := st_even (xs := ps.map Pp.le) hm hk hkl hx
    have He := Lib.hid (And.intro e1 e2)
    have hd := Lib.hid (show decide (s % 2 = 1) = false by simp [hm])
    clear hx e1 e2 hk hm
    go_enter Try.func68, Try.ntmps68
    go_wp2_with (first | (go_at_call 72; ((with_reducible refine (stepBack_any s _ false hd.out (by omega)).mono ?_); rintro e w1 ⟨rfl, rfl⟩)))
    go_quiet (fail)
    go_wp2
    go_ret2
    exact ⟨by rw [He.out.1, He.out.2]; rfl, by (repeat (first | (with_reducible assumption) | (with_reducible exact Below.refl _ _) | ((with_reducible refine Below.alloc ?_ ?hsz _); (case hsz => (first | omega | (simp; done) | (simp; omega) | (simp at *; omega)))) | ((with_reducible refine Below.setCell ?_ ?hsz _); (case hsz => (first | omega | (simp; done) | (simp; omega) | (simp at *; omega)))) | (with_reducible refine Below.drew ?_) | (with_reducible refine below_drewN ?_ _) | ((with_reducible refine Below.trans ?_ (Below.mono (by with_reducible assumption) ?hsz)); (case hsz => (first | omega | (simp; done) | (simp; omega) | (simp at *; omega))))))⟩

end Go.Proofs.Ytmeicnhlehdboaa
