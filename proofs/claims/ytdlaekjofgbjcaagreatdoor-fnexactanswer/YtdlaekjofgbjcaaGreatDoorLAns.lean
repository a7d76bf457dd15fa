/-
  The law FnExactAnswer: its walk. Mine, by template (wip/gen.py).
-/
import Derived.Test.YtdlaekjofgbjcaaGreatDoorSAns
import Derived.Test.YtdlaekjofgbjcaaGreatDoorIAnsZ
namespace Go.Proofs.YtdlaekjofgbjcaaGreatDoor
open Go.RowKit
set_option maxHeartbeats 4000000 in
theorem fnExactAnswer_walk (A : Nat → Addr) (n : Int) (s : ByteArray) (w : World) (hE : Env w A) :
    Calls Tryz.prog 5 #[.int .i64 n, .string s] w fun e w' => e = .returned (.bool true) ∧ Below w.heap.size w w' := by
  have HE : Hid (Env w A) := hE
  clear hE
  by_cases hs : s.size ≤ 1048576
  case neg =>
    have tl : decide ((1048576 : Int) < (s.size : Int)) = true := decide_eq_true (by omega)
    go_enter Tryz.func5, Tryz.ntmps5
    go_wp2
    go_ret
    exact ⟨rfl, Below.refl _ _⟩
  have tl : decide ((1048576 : Int) < (s.size : Int)) = false := decide_eq_false (by omega)
  go_enter Tryz.func5, Tryz.ntmps5
  go_wp2_with fail
  refine (specAnswer_any n s w hs).mono ?_
  rintro e w1 ⟨⟨t, rfl, ht⟩, hb⟩
  have HT : Hid (bl t = ansP n (bl s) ∧ Below w.heap.size w w1) := ⟨ht, hb⟩
  clear ht hb
  go_wp2_with fail
  refine (implAnswer_any A n s w1 hs (HE.out.below HT.out.2)).mono ?_
  rintro e w2 ⟨⟨t2, rfl, ht2⟩, hb2⟩
  have HB : Hid (Below w.heap.size w w2) := below_trans HT.out.2 HT.out.2.size hb2
  have e2 : t2 = t := bl_inj (ht2.trans HT.out.1.symm)
  subst e2
  clear ht2 hb2
  go_wp2
  go_ret
  exact ⟨rfl, HB.out⟩
end Go.Proofs.YtdlaekjofgbjcaaGreatDoor