/-
 The readings of impl's reader: a map literal, filled in whatever order. Mine, by program (wip/hearr.py), by template (wip/gen.py).
-/
import Derived.Test.YtdlaekjofgbjcaaGreatDoorBaseZ
import Derived.Test.YtdlaekjofgbjcaaGreatDoorHearKZ
import Derived.Test.YtdlaekjofgbjcaaGreatDoorILine
import Derived.Deep.RegionHeld3
namespace Go.Proofs.YtdlaekjofgbjcaaGreatDoor
open Go.RowKit
def lst (d : Nat → Bool) : Array Bool := Array.ofFn (n := 57) (fun i => if i.val = 55 ∨ i.val = 56 then false else if i.val % 6 = 0 ∧ 0 < i.val then d (i.val / 6) else true)
def lstV (d : Nat → Bool) (i : Nat) : Bool := if i = 55 ∨ i = 56 then false else if i % 6 = 0 ∧ 0 < i then d (i / 6) else true
theorem lst_size (d : Nat → Bool) : (lst d).size = 57 := Array.size_ofFn
theorem lst_get? (d : Nat → Bool) (i : Nat) : (lst d)[i]? = if i < 57 then some (lstV d i) else none := by
 unfold lst; rw [Array.getElem?_ofFn]
 by_cases h : i < 57
 ·
  rw [dif_pos h, if_pos h]; rfl
 · rw [dif_neg h, if_neg h]
theorem lst_getD (d : Nat → Bool) (i : Nat) (x : Bool) : (lst d).getD i x = if i < 57 then (if i = 55 ∨ i = 56 then false else if i % 6 = 0 ∧ 0 < i then d (i / 6) else true) else x := by
 rw [Array.getD_eq_getD_getElem?, lst_get?]
 by_cases h : i < 57
 ·
  rw [if_pos h, if_pos h]; rfl
 ·
  rw [if_neg h, if_neg h]; rfl
theorem lst_set (d : Nat → Bool) (j : Nat) (h1 : 1 ≤ j) (h9 : j ≤ 9) : (lst d).setIfInBounds (6 * j) true = lst (fun i => d i || decide (i = j)) := by
 apply Array.ext_getElem?; intro i; rw [Array.getElem?_setIfInBounds, lst_get?, lst_get?, lst_size]
 by_cases e : 6 * j = i
 ·
  subst e; rw [if_pos rfl, if_pos (by omega), if_pos (by omega)]; unfold lstV; rw [if_neg (by omega), if_pos (by omega)]; show some true = some (d (6 * j / 6) || decide (6 * j / 6 = j))
  rw [show 6 * j / 6 = j by omega, decide_eq_true rfl, Bool.or_true]
 ·
  rw [if_neg e]
  by_cases h : i < 57
  ·
   rw [if_pos h, if_pos h]; unfold lstV
   by_cases c1 : i = 55 ∨ i = 56
   · rw [if_pos c1, if_pos c1]
   ·
    rw [if_neg c1, if_neg c1]
    by_cases c2 : i % 6 = 0 ∧ 0 < i
    ·
     rw [if_pos c2, if_pos c2]; show some (d (i / 6)) = some (d (i / 6) || decide (i / 6 = j))
     rw [decide_eq_false (show ¬ i / 6 = j by omega), Bool.or_false]
    · rw [if_neg c2, if_neg c2]
  · rw [if_neg h, if_neg h]
theorem lst_all (d : Nat → Bool) (h : ∀ j, 1 ≤ j → j ≤ 9 → d j = true) : lst d = lst (fun _ => true) := by
 apply Array.ext_getElem?; intro i; rw [lst_get?, lst_get?]
 by_cases c : i < 57
 ·
  rw [if_pos c, if_pos c]; unfold lstV
  by_cases c1 : i = 55 ∨ i = 56
  · rw [if_pos c1, if_pos c1]
  ·
   rw [if_neg c1, if_neg c1]
   by_cases c2 : i % 6 = 0 ∧ 0 < i
   · rw [if_pos c2, if_pos c2, h (i / 6) (by omega) (by omega)]
   · rw [if_neg c2, if_neg c2]
 · rw [if_neg c, if_neg c]
def cnt (d : Nat → Bool) : Nat := (d 1).toNat + (d 2).toNat + (d 3).toNat + (d 4).toNat + (d 5).toNat + (d 6).toNat + (d 7).toNat + (d 8).toNat + (d 9).toNat
theorem cnt_le (d : Nat → Bool) : cnt d ≤ 9 := by
 have h : ∀ b : Bool, b.toNat ≤ 1 := fun b => by cases b <;> decide
 have := h (d 1); have := h (d 2); have := h (d 3); have := h (d 4); have := h (d 5); have := h (d 6); have := h (d 7); have := h (d 8); have := h (d 9); unfold cnt; omega
theorem cnt_set (d : Nat → Bool) (j : Nat) (h1 : 1 ≤ j) (h9 : j ≤ 9) (hd : d j = false) : cnt (fun i => d i || decide (i = j)) = cnt d + 1 := by
 rcases (show j = 1 ∨ j = 2 ∨ j = 3 ∨ j = 4 ∨ j = 5 ∨ j = 6 ∨ j = 7 ∨ j = 8 ∨ j = 9 by omega) with rfl | rfl | rfl | rfl | rfl | rfl | rfl | rfl | rfl <;> simp [cnt, hd] <;> omega
structure InsOk (ops : Array Oper) (a : Act) (q b : Nat) : Prop where
 ins : ∀ j : Nat, 1 ≤ j → j ≤ 9 → ∃ (o : Oper) (m k v : Operand), ops[6 * j]? = some o ∧ o.guard = none ∧ o.dst = none ∧ o.op = .insert 173 m k v ∧ a.eval m = .map (some b) ∧ a.eval k = .string (wordB j) ∧ a.eval v = rdV q j ∧ (o.after.all fun e => e.on == 0 || e.on == 6 * j - 4 || e.on == 6 * j - 1) = true
 mv : ∃ o, ops[55]? = some o ∧ ∀ j : Nat, 1 ≤ j → j ≤ 9 → (o.after.any fun e => e.on == 6 * j && Region.binds .any e) = true
 fin : ∃ o, ops[56]? = some o ∧ (o.after.any fun e => e.on == 55 && Region.binds .any e) = true
theorem wpAnyH_listed {P : Program} {md : Region.Mode} {ops : Array Oper} {Q : Exit → Act → World → Prop} {S : World → Prop} {fuel : Nat} {l l' : Array Bool} {a : Act} {w : World} (h : l = l') (hw : wpAnyH P md ops Q S fuel l' a w) : wpAnyH P md ops Q S fuel l a w := h ▸ hw
theorem ins_all {ops : Array Oper} {Q : Exit → Act → World → Prop} {S : World → Prop} {a : Act} {W0 : World} {q b : Nat} (hI : InsOk ops a q b) (hS : ∀ w, Fr (fun x => x = b) W0 w → S w)
  (K : ∀ k w, MI w q b (fun _ => true) → Fr (fun x => x = b) W0 w → S w → wpAnyH Tryz.prog .any ops Q S (k + 2) (lst (fun _ => true)) a w) :
  ∀ (fuel : Nat) (d : Nat → Bool) (w : World), 11 ≤ cnt d + fuel → MI w q b d → Fr (fun x => x = b) W0 w → wpAnyH Tryz.prog .any ops Q S fuel (lst d) a w := by
 intro fuel
 induction fuel with
 | zero => intro d w h _ _; have := cnt_le d; omega
 | succ fuel ih =>
  intro d w hf hm hfr
  by_cases hall : ∀ j, 1 ≤ j → j ≤ 9 → d j = true
  ·
   have hc : cnt d ≤ 9 := cnt_le d; obtain ⟨k, hk⟩ : ∃ k, fuel + 1 = k + 2 := ⟨fuel - 1, by omega⟩; rw [hk, lst_all d hall]; refine K k w ?_ hfr (hS w hfr); obtain ⟨es, clock, m1, m2, m3⟩ := hm; exact ⟨es, clock, m1, fun e he => by obtain ⟨j, a1, a2, -, a4, a5⟩ := m2 e he; exact ⟨j, a1, a2, rfl, a4, a5⟩, fun j a1 a2 _ => m3 j a1 a2 (hall j a1 a2)⟩
  ·
   have hex : ∃ j, 1 ≤ j ∧ j ≤ 9 ∧ d j = false := by
    rcases Classical.em (∃ j, 1 ≤ j ∧ j ≤ 9 ∧ d j = false) with h | h
    · exact h
    ·
     refine absurd (fun j h1 h9 => ?_) hall; cases hd : d j with
     | true => rfl
     | false => exact absurd ⟨j, h1, h9, hd⟩ h
   have rdy : ∀ j, 1 ≤ j → j ≤ 9 → d j = false → 6 * j ∈ Region.ready .any ops (lst d) := fun j h1 h9 hd => by
    obtain ⟨o, m, k, v, p1, -, -, -, -, -, -, p8⟩ := hI.ins j h1 h9; refine mem_ready.2 ⟨?_, o, p1, fun e he _ => ?_⟩
    · rw [lst_getD, if_pos (by omega), if_neg (by omega), if_pos (by omega), show 6 * j / 6 = j by omega, hd]
    ·
     rw [lst_getD]; have p9 := Array.all_eq_true'.1 p8 e he; simp only [Bool.or_eq_true, beq_iff_eq] at p9; rcases p9 with (q | q) | q
     · rw [q, if_pos (by omega), if_neg (by omega), if_neg (by omega)]
     · rw [q, if_pos (by omega), if_neg (by omega), if_neg (by omega)]
     · rw [q, if_pos (by omega), if_neg (by omega), if_neg (by omega)]
   refine ⟨fun h => ?_, fun i hi => ?_⟩
   ·
    obtain ⟨j, h1, h9, hd⟩ := hex; have := rdy j h1 h9 hd; rw [h] at this; cases this
   ·
    obtain ⟨hl, o, ho, hed⟩ := mem_ready.1 hi; rw [lst_getD] at hl
    by_cases i57 : i < 57
    ·
     rw [if_pos i57] at hl
     by_cases i55 : i = 55
     ·
      subst i55; obtain ⟨o', ho', h1⟩ := hI.mv; rw [ho] at ho'; cases ho'; obtain ⟨j, j1, j9, hd⟩ := hex; obtain ⟨e, he, e3⟩ := Array.any_eq_true'.1 (h1 j j1 j9); simp only [Bool.and_eq_true, beq_iff_eq] at e3; obtain ⟨e1, e2⟩ := e3; have := hed e he e2; rw [lst_getD, e1, if_pos (by omega), if_neg (by omega), if_pos (by omega), show 6 * j / 6 = j by omega, hd] at this; cases this
     by_cases i56 : i = 56
     ·
      subst i56; obtain ⟨o', ho', h1⟩ := hI.fin; obtain ⟨e, he, e3⟩ := Array.any_eq_true'.1 h1; simp only [Bool.and_eq_true, beq_iff_eq] at e3; obtain ⟨e1, e2⟩ := e3; rw [ho] at ho'; cases ho'; have := hed e he e2; rw [lst_getD, e1, if_pos (by omega), if_pos (by omega)] at this; cases this
     rw [if_neg (by omega)] at hl
     by_cases c2 : i % 6 = 0 ∧ 0 < i
     ·
      rw [if_pos c2] at hl; obtain ⟨j, rfl⟩ : ∃ j, i = 6 * j := ⟨i / 6, by omega⟩; have hj : 6 * j / 6 = j := by omega
      rw [hj] at hl; obtain ⟨o', m, k, v, p1, p2, p3, p4, p5, p6, p7, -⟩ := hI.ins j (by omega) (by omega); rw [ho] at p1; cases p1; obtain ⟨w', hr, hm', hf'⟩ := hm.insert (by omega) (by omega) hl; refine wpOp_step ho (fun K' hK' => ?_); rw [if_pos (by simp [Region.wanted, p2])]; have hfr' := hfr.trans hf'; have hgo := hK' a w' ⟨hS w' hfr', by rw [lst_set d j (by omega) (by omega)]; exact ih _ w' (by rw [cnt_set d j (by omega) (by omega) hl]; omega) hm' hfr'⟩; unfold Oper.wp; simp [execOp, p4, p5, p6, p7, hr, Result.andThen]; show K' (a.put o.dst undef) w'
      rw [p3]; exact hgo
     ·
      rw [if_neg c2] at hl; cases hl
    ·
     rw [if_neg i57] at hl; cases hl
def FW0 (w' : World) : Prop := w'.cell? ⟨1, 1, none⟩ = some (.string ⟨#[119, 114, 105, 116, 101]⟩) ∧ w'.cell? ⟨1, 2, none⟩ = some (.string ⟨#[103, 105, 118, 101]⟩) ∧ w'.cell? ⟨1, 3, none⟩ = some (.string ⟨#[114, 101, 112, 101, 97, 116]⟩) ∧ w'.cell? ⟨1, 4, none⟩ = some (.string ⟨#[98, 97, 99, 107]⟩) ∧ w'.cell? ⟨1, 5, none⟩ = some (.string ⟨#[99, 97, 110, 99, 101, 108]⟩) ∧ w'.cell? ⟨1, 6, none⟩ = some (.string ⟨#[108, 111, 99, 107]⟩) ∧ w'.cell? ⟨1, 7, none⟩ = some (.string ⟨#[117, 110, 108, 111, 99, 107]⟩) ∧ w'.cell? ⟨1, 8, none⟩ = some (.string ⟨#[111, 99, 99, 117, 112, 105, 101, 100]⟩) ∧ w'.cell? ⟨1, 9, none⟩ = some (.string ⟨#[102, 114, 101, 101]⟩)
theorem fw_all {w : World} (h : FWords w) : FW0 w := ⟨h 1 ⟨by decide, by decide⟩, h 2 ⟨by decide, by decide⟩, h 3 ⟨by decide, by decide⟩, h 4 ⟨by decide, by decide⟩, h 5 ⟨by decide, by decide⟩, h 6 ⟨by decide, by decide⟩, h 7 ⟨by decide, by decide⟩, h 8 ⟨by decide, by decide⟩, h 9 ⟨by decide, by decide⟩⟩
theorem fw0_alloc {w : World} (h : FW0 w.drew) (o : Obj) : FW0 (w.alloc o).drew := by
 have f : Fr (fun _ => False) w.drew (w.alloc o).drew := (Fr.of_below (below1 w.drew o)); obtain ⟨h1, h2, h3, h4, h5, h6, h7, h8, h9⟩ := h; exact ⟨cell_fr h1 f (fun e => e), cell_fr h2 f (fun e => e), cell_fr h3 f (fun e => e), cell_fr h4 f (fun e => e), cell_fr h5 f (fun e => e), cell_fr h6 f (fun e => e), cell_fr h7 f (fun e => e), cell_fr h8 f (fun e => e), cell_fr h9 f (fun e => e)⟩
theorem fw0_fr {w w' : World} {b : Nat} (h : FW0 w) (f : Fr (fun x => x = b) w w') (hb : 1 < b) : FW0 w' := by
 obtain ⟨h1, h2, h3, h4, h5, h6, h7, h8, h9⟩ := h
 have n : ∀ i, ¬ (⟨1, i, none⟩ : Addr).block = b := fun i e => by
  have : 1 = b := e; omega
 exact ⟨cell_fr h1 f (n _), cell_fr h2 f (n _), cell_fr h3 f (n _), cell_fr h4 f (n _), cell_fr h5 f (n _), cell_fr h6 f (n _), cell_fr h7 f (n _), cell_fr h8 f (n _), cell_fr h9 f (n _)⟩
set_option maxRecDepth 40000 in
set_option maxHeartbeats 8000000 in
theorem readings_any (q : Nat) (w : World) (hw : FWords w) (hq : 15 ≤ w.heap.size) :
  Calls Tryz.prog 96 #[.pointer (some ⟨q, 0, none⟩)] w fun e w' => ∃ b, e = .returned (.map (some b)) ∧ MI w' q b (fun _ => true) ∧ Below w.heap.size w w' := by
 have hmf : ∀ (fn : Fn) (first cap : Array Value) (w : World), (Instr.makeFunc fn first cap).run Tryz.prog w = .ok (.func fn first cap) w := fun _ _ _ _ => rfl; have HW : Hid (FWords w) := hw; have hS : FW0 w.drew := fw_all (fun k hk => hw k hk); have HS : Hid (FW0 w.drew) := hS; clear hw
 go_enter Tryz.func96, Tryz.ntmps96
 go_wp2; refine wp_region_held_drew (S := (fun w' => w'.cell? ⟨1, 1, none⟩ = some (.string ⟨#[119, 114, 105, 116, 101]⟩) ∧ w'.cell? ⟨1, 2, none⟩ = some (.string ⟨#[103, 105, 118, 101]⟩) ∧ w'.cell? ⟨1, 3, none⟩ = some (.string ⟨#[114, 101, 112, 101, 97, 116]⟩) ∧ w'.cell? ⟨1, 4, none⟩ = some (.string ⟨#[98, 97, 99, 107]⟩) ∧ w'.cell? ⟨1, 5, none⟩ = some (.string ⟨#[99, 97, 110, 99, 101, 108]⟩) ∧ w'.cell? ⟨1, 6, none⟩ = some (.string ⟨#[108, 111, 99, 107]⟩) ∧ w'.cell? ⟨1, 7, none⟩ = some (.string ⟨#[117, 110, 108, 111, 99, 107]⟩) ∧ w'.cell? ⟨1, 8, none⟩ = some (.string ⟨#[111, 99, 99, 117, 112, 105, 101, 100]⟩) ∧ w'.cell? ⟨1, 9, none⟩ = some (.string ⟨#[102, 114, 101, 101]⟩))) (by kernel_rfl) hS (fun hS0 => ?_); clear hS; refine tk 1 rfl ?_; refine tk 2 rfl ?_; refine tk 3 rfl ?_; refine tk 4 rfl ?_; refine tk 5 rfl ?_; refine tk 7 rfl ?_; refine tk 8 rfl ?_; refine tk 9 rfl ?_; refine tk 10 rfl ?_; refine tk 11 rfl ?_; refine tk 13 rfl ?_; refine tk 14 rfl ?_; refine tk 15 rfl ?_; refine tk 16 rfl ?_; refine tk 17 rfl ?_; refine tk 19 rfl ?_; refine tk 20 rfl ?_; refine tk 21 rfl ?_; refine tk 22 rfl ?_; refine tk 23 rfl ?_; refine tk 25 rfl ?_; refine tk 26 rfl ?_; refine tk 27 rfl ?_; refine tk 28 rfl ?_; refine tk 29 rfl ?_; refine tk 31 rfl ?_; refine tk 32 rfl ?_; refine tk 33 rfl ?_; refine tk 34 rfl ?_; refine tk 35 rfl ?_; refine tk 37 rfl ?_; refine tk 38 rfl ?_; refine tk 39 rfl ?_; refine tk 40 rfl ?_; refine tk 41 rfl ?_; refine tk 43 rfl ?_; refine tk 44 rfl ?_; refine tk 45 rfl ?_; refine tk 46 rfl ?_; refine tk 47 rfl ?_; refine tk 49 rfl ?_; refine tk 50 rfl ?_; refine tk 51 rfl ?_; refine tk 52 rfl ?_; refine tk 53 rfl ?_; refine rdy1 0 rfl (fun Kx hK => ?_); go_simp; refine hK.out _ _ (fw0_alloc HS.out _) (fun hS1 => ?_); clear hK Kx; refine wpAnyH_listed (l' := lst (fun _ => false)) (by kernel_rfl) ?_; refine ins_all (q := q) (b := w.heap.size) (W0 := (w.alloc (.map #[] 0)).drew) ?ok ?keep ?more 11 (fun _ => false) _ (by decide) ?start (Fr.refl _ _)
 case ok =>
  refine ⟨fun j h1 h9 => ?_, ⟨_, rfl, fun j h1 h9 => ?_⟩, ⟨_, rfl, by kernel_rfl⟩⟩
  · rcases (show j = 1 ∨ j = 2 ∨ j = 3 ∨ j = 4 ∨ j = 5 ∨ j = 6 ∨ j = 7 ∨ j = 8 ∨ j = 9 by omega) with rfl | rfl | rfl | rfl | rfl | rfl | rfl | rfl | rfl <;> exact ⟨_, _, _, _, rfl, rfl, rfl, rfl, rfl, rfl, rfl, by kernel_rfl⟩
  · rcases (show j = 1 ∨ j = 2 ∨ j = 3 ∨ j = 4 ∨ j = 5 ∨ j = 6 ∨ j = 7 ∨ j = 8 ∨ j = 9 by omega) with rfl | rfl | rfl | rfl | rfl | rfl | rfl | rfl | rfl <;> kernel_rfl
 case keep => exact fun W hf => fw0_fr (fw0_alloc HS.out _) hf (by show _ < _; omega)
 case start => exact ⟨#[], 0, Deep.blk_alloc_new _ _, fun e he => (by cases he), fun j _ _ h => (by cases h)⟩
 case more =>
  intro k W hm hf hs; have HM : Hid (MI W q w.heap.size (fun _ => true) ∧ Below w.heap.size w W) := ⟨hm, (below1 w (.map #[] 0)).trans ((Fr.trans (Fr.of_below (Below.refl _ _).drew) hf).below (B := w.heap.size) (by simp) (fun i e => by omega))⟩; clear hm hf; refine tk 55 rfl ?_; refine tk 56 rfl ?_; refine wpAnyH_done (by kernel_rfl) ?_ _; go_simp; go_wp2; go_ret; exact ⟨_, rfl, HM.out.1, HM.out.2⟩
end Go.Proofs.YtdlaekjofgbjcaaGreatDoor
