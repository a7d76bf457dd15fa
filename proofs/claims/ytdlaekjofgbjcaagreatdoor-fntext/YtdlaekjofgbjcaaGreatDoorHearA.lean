import Derived.Test.YtdlaekjofgbjcaaGreatDoorLineT
import Derived.Test.YtdlaekjofgbjcaaGreatDoorText2
import Derived.Lib.CutLaws
import Derived.Lib.AtoiAllCases
/-
 Lines read, as bytes: the pieces that both programs read, and that a line of an event is read back. Mine, by template (wip/gen.py).
-/
namespace Go.Proofs.YtdlaekjofgbjcaaGreatDoor
open Go.RowKit
def low (b : UInt8) : Bool := decide (97 ≤ b.toNat) && decide (b.toNat ≤ 122)
def dgt (b : UInt8) : Bool := decide (48 ≤ b.toNat) && decide (b.toNat ≤ 57)
def wordR (l : List UInt8) : List UInt8 × List UInt8 := (l.takeWhile low, l.dropWhile low)
def numR : Nat → Nat → List UInt8 → Nat × Nat × List UInt8
 | k, n, [] => (k, n, [])
 | k, n, b :: l => if dgt b = true ∧ k < 3 ∧ (k = 0 ∨ 0 < n) then numR (k + 1) (10 * n + (b.toNat - 48)) l else (k, n, b :: l)
def StopD (l : List UInt8) : Prop := ∀ b r, l = b :: r → dgt b = false
def StopW (l : List UInt8) : Prop := ∀ b r, l = b :: r → low b = false
theorem dg (d : Nat) (h : d < 10) : (UInt8.ofNat (48 + d)).toNat = 48 + d := by rw [UInt8.toNat_ofNat']; omega
theorem dg_t (d : Nat) (h : d < 10) : dgt (UInt8.ofNat (48 + d)) = true := by unfold dgt; rw [dg d h]; simp; omega
theorem numR_stop (k n : Nat) (l : List UInt8) (h : StopD l) : numR k n l = (k, n, l) := by
 cases l with
 | nil => rfl
 | cons b r =>
  simp only [numR]; rw [if_neg (fun q => by have := h b r rfl; rw [this] at q; exact absurd q.1 (by decide))]
theorem numR_dec (m : Nat) (hm : m < 1000) (l : List UInt8) (h : StopD l) : ∃ k, 0 < k ∧ numR 0 0 (Lib.decDigits m ++ l) = (k, m, l) := by
 rw [Lib.decDigits]; split
 ·
  next h1 =>
  refine ⟨1, by omega, ?_⟩; simp only [List.cons_append, List.nil_append, numR]; rw [if_pos ⟨dg_t m h1, by omega, Or.inl trivial⟩, numR_stop _ _ _ h, dg m h1]; simp
 ·
  next h1 =>
  rw [Lib.decDigits]; split
  ·
   next h2 =>
   refine ⟨2, by omega, ?_⟩; simp only [List.cons_append, List.nil_append, numR]; have e1 := dg (m / 10) h2; have e2 := dg (m % 10) (by omega); rw [if_pos ⟨dg_t _ h2, by omega, Or.inl trivial⟩, e1, if_pos ⟨dg_t _ (by omega), by omega, Or.inr (by omega)⟩, e2, numR_stop _ _ _ h]; simp only [Prod.mk.injEq, and_true, true_and]; omega
  ·
   next h2 =>
   rw [Lib.decDigits, dif_pos (by omega)]; refine ⟨3, by omega, ?_⟩; simp only [List.cons_append, List.nil_append, numR]; have e0 := dg (m / 10 / 10) (by omega); have e1 := dg (m / 10 % 10) (by omega); have e2 := dg (m % 10) (by omega); rw [if_pos ⟨dg_t _ (by omega), by omega, Or.inl trivial⟩, e0, if_pos ⟨dg_t _ (by omega), by omega, Or.inr (by omega)⟩, e1, if_pos ⟨dg_t _ (by omega), by omega, Or.inr (by omega)⟩, e2, numR_stop _ _ _ h]; simp only [Prod.mk.injEq, and_true, true_and]; omega
theorem wordR_all (s l : List UInt8) (hs : ∀ b ∈ s, low b = true) (h : StopW l) : wordR (s ++ l) = (s, l) := by
 unfold wordR
 have e : ∀ l : List UInt8, StopW l → l.takeWhile low = [] ∧ l.dropWhile low = l := fun l h => by
  cases l with
  | nil => exact ⟨rfl, rfl⟩
  | cons b r =>
   have := h b r rfl; simp [this]
 induction s with
 | nil => exact Prod.ext (e l h).1 (e l h).2
 | cons b s ih =>
  have ih := ih (fun x hx => hs x (List.mem_cons_of_mem _ hx)); have hb := hs b (List.mem_cons_self ..); simp only [Prod.mk.injEq] at ih; simp [hb, ih.1, ih.2]
theorem name_low {s : ByteArray} (h : NameOk s) : ∀ b ∈ bl s, low b = true := fun b hb => by
 obtain ⟨i, hi, e⟩ := List.getElem_of_mem hb; have h1 := h.1 i (by rw [← bl_size]; exact hi); unfold chr at h1
 have e2 : s.data.toList.getD i 0 = b := by
  rw [List.getD_eq_getElem?_getD]; have : s.data.toList[i]? = some b := by rw [← e]; exact List.getElem?_eq_getElem hi
  rw [this]; rfl
 rw [e2] at h1; unfold low; simp; exact h1
theorem wordB_low (k : Int) : ∀ b ∈ bl (wordB k), low b = true := by
 unfold wordB
 repeat (split; · decide)
 decide
theorem stopW_blank (l : List UInt8) : StopW (32 :: l) := fun b r e => by
 simp only [List.cons.injEq] at e; rw [← e.1]; decide
theorem stopW_colon (l : List UInt8) : StopW (58 :: l) := fun b r e => by
 simp only [List.cons.injEq] at e; rw [← e.1]; decide
theorem stopW_nil : StopW [] := fun b r e => by cases e
theorem stopD_blank (l : List UInt8) : StopD (32 :: l) := fun b r e => by
 simp only [List.cons.injEq] at e; rw [← e.1]; decide
theorem stopD_nil : StopD [] := fun b r e => by cases e
def secF : List Int → List UInt8
 | [] => []
 | x :: xs => 32 :: Lib.decDigits x.toNat ++ secF xs
theorem secF_append (a : List Int) (x : Int) : secF (a ++ [x]) = secF a ++ (32 :: Lib.decDigits x.toNat) := by
 induction a with
 | nil => simp [secF]
 | cons y a ih => simp [secF, ih, List.append_assoc]
theorem secT_secF (x : Ord) (k : Nat) (hk : k ≤ x.secs.length) : secT x k = secF (x.secs.take k) := by
 induction k with
 | zero => simp [secT, secF]
 | succ k ih =>
  have hlt : k < x.secs.length := by omega
  rw [secT, ih (by omega), ← List.take_append_getElem hlt, secF_append]
  have : sV x k = x.secs[k] := by
   unfold sV; rw [List.getD_eq_getElem?_getD, List.getElem?_eq_getElem hlt]; rfl
  rw [this]
theorem stopD_secF (xs : List Int) : StopD (secF xs) := by
 cases xs with
 | nil => exact stopD_nil
 | cons x xs => exact stopD_blank _
end Go.Proofs.YtdlaekjofgbjcaaGreatDoor
/-
 A line read as spec.Hear reads it, and that a line of an event is read back. Mine, by template (wip/gen.py).
-/
namespace Go.Proofs.YtdlaekjofgbjcaaGreatDoor
open Go.RowKit
def opOf (l : List UInt8) : Int :=
 if l = bl (wordB 1) then 1 else if l = bl (wordB 2) then 2 else if l = bl (wordB 3) then 3 else if l = bl (wordB 4) then 4 else if l = bl (wordB 5) then 5 else if l = bl (wordB 6) then 6 else if l = bl (wordB 7) then 7 else if l = bl (wordB 8) then 8 else if l = bl (wordB 9) then 9 else 0
theorem opOf_word {k : Int} (h : In k 1 9) : opOf (bl (wordB k)) = k := by
 rcases one_to_nine h with rfl | rfl | rfl | rfl | rfl | rfl | rfl | rfl | rfl <;> decide
def takeR (s l : List UInt8) : Bool × List UInt8 := if s.isPrefixOf l then (false, l.drop s.length) else (true, l)
theorem takeR_yes (s l : List UInt8) : takeR s (s ++ l) = (false, l) := by
 unfold takeR; rw [if_pos (by simp)]; simp
def secsR : Nat → List UInt8 → Bool × List Int
 | 0, _ => (false, [])
 | f + 1, l =>
  if l = [] then (false, [])
  else
   let a := takeR [32] l
   let b := numR 0 0 a.2
   if a.1 = true ∨ b.1 = 0 then (true, [(b.2.1 : Int)])
   else ((secsR f b.2.2).1, (b.2.1 : Int) :: (secsR f b.2.2).2)
theorem secsR_secF (xs : List Int) (h : ∀ x ∈ xs, 0 ≤ x ∧ x < 1000) (f : Nat) (hf : xs.length ≤ f) : secsR f (secF xs) = (false, xs) := by
 induction xs generalizing f with
 | nil =>
  cases f with
  | zero => rfl
  | succ f => simp [secsR, secF]
 | cons x xs ih =>
  cases f with
  | zero => simp at hf
  | succ f =>
   have hx := h x (List.mem_cons_self ..); have ih := ih (fun y hy => h y (List.mem_cons_of_mem _ hy)) f (by simp at hf; omega); obtain ⟨k, hk, e⟩ := numR_dec x.toNat (by omega) (secF xs) (stopD_secF xs); have t : takeR [32] (secF (x :: xs)) = (false, Lib.decDigits x.toNat ++ secF xs) := takeR_yes [32] _; unfold secsR; rw [if_neg (by simp [secF])]; simp only [t, e]; rw [if_neg (by simp; omega), ih]; simp only [Prod.mk.injEq, true_and, List.cons.injEq, and_true]; omega
def kindOfL (l : List UInt8) : Int := if l = [112, 97, 115, 115] then 1 else if l = [119, 111, 114, 107] then 2 else 0
def readS (l : List UInt8) : Bool × Ev :=
 let w := wordR l
 let op := opOf w.1
 let t := takeR [32] w.2
 if op = 1 then
  let h := wordR t.2
  let u := takeR [32] h.2
  let k := wordR u.2
  let bad := t.1 || u.1
  let s := if bad then (true, []) else secsR k.2.length k.2
  (bad || s.1, ⟨1, 0, ⟨h.1.toArray⟩, kindOfL k.1, s.2, ⟨#[]⟩⟩)
 else
  let m := numR 0 0 t.2
  let b1 := t.1 || decide (m.1 = 0)
  if op = 3 ∨ op = 4 then
   let u := takeR [32] m.2.2
   let h := wordR u.2
   if op = 3 then
    let v := takeR [58, 32] h.2
    (b1 || u.1 || v.1, ⟨3, (m.2.1 : Int), ⟨h.1.toArray⟩, 0, [], if b1 || u.1 || v.1 then ⟨#[]⟩ else ⟨v.2.toArray⟩⟩)
   else (b1 || u.1, ⟨4, (m.2.1 : Int), ⟨h.1.toArray⟩, 0, [], ⟨#[]⟩⟩)
  else (b1, ⟨op, (m.2.1 : Int), ⟨#[]⟩, 0, [], ⟨#[]⟩⟩)
theorem mk_bl (s : ByteArray) : (⟨(bl s).toArray⟩ : ByteArray) = s := bl_inj (by simp [bl])
theorem nil_of {s : ByteArray} (h : s.size = 0) : s = ⟨#[]⟩ := (str_eq_nil s).2 h
theorem secF_len (xs : List Int) : xs.length ≤ (secF xs).length := by
 induction xs with
 | nil => simp [secF]
 | cons x xs ih => simp [secF]; omega
theorem stopW_secF (xs : List Int) : StopW (secF xs) := by
 cases xs with
 | nil => exact stopW_nil
 | cons x xs => exact stopW_blank _
theorem readS_w {E : Ev} (h : LineW E) : readS (lineT E) = (false, E) := by
 obtain ⟨o, h1, h2, h3, h4, h5⟩ := h; obtain ⟨op, of_, holder, kind, secs, text⟩ := E; simp only at o h1 h2 h3 h4 h5; subst o; subst h1; obtain rfl := nil_of h5
 have hk : ∃ kw : List UInt8, kindL kind = 32 :: kw ∧ (∀ b ∈ kw, low b = true) ∧ kindOfL kw = kind := by
  unfold In at h3; rcases (show kind = 1 ∨ kind = 2 by omega) with rfl | rfl
  · exact ⟨[112, 97, 115, 115], rfl, by decide, by decide⟩
  · exact ⟨[119, 111, 114, 107], rfl, by decide, by decide⟩
 obtain ⟨kw, k1, k2, k3⟩ := hk
 have hs : secT (eOrd ⟨1, 0, holder, kind, secs, ⟨#[]⟩⟩) secs.length = secF secs := by
  refine (secT_secF (eOrd ⟨1, 0, holder, kind, secs, ⟨#[]⟩⟩) secs.length (Nat.le_refl _)).trans ?_; show secF (secs.take secs.length) = _
  rw [List.take_length]
 have e : lineT ⟨1, 0, holder, kind, secs, ⟨#[]⟩⟩ = bl (wordB 1) ++ (32 :: (bl holder ++ (32 :: (kw ++ secF secs)))) := by
  rw [lineT_1 rfl]; unfold baseL; simp only [hs, k1]; simp [List.append_assoc]
 rw [e]; unfold readS; have a1 := wordR_all (bl (wordB 1)) (32 :: (bl holder ++ (32 :: (kw ++ secF secs)))) (wordB_low 1) (stopW_blank _); have a2 : opOf (bl (wordB 1)) = 1 := opOf_word ⟨by decide, by decide⟩; have a3 : takeR [32] (32 :: (bl holder ++ (32 :: (kw ++ secF secs)))) = (false, bl holder ++ (32 :: (kw ++ secF secs))) := takeR_yes [32] _; have a4 := wordR_all (bl holder) (32 :: (kw ++ secF secs)) (name_low h2) (stopW_blank _); have a5 : takeR [32] (32 :: (kw ++ secF secs)) = (false, kw ++ secF secs) := takeR_yes [32] _; have a6 := wordR_all kw (secF secs) k2 (stopW_secF secs)
 have a7 := secsR_secF secs (fun x hx => by
  obtain ⟨i, hi, rfl⟩ := List.getElem_of_mem hx; have q := h4.1 i hi
  have e2 : sV (eOrd ⟨1, 0, holder, kind, secs, ⟨#[]⟩⟩) i = secs[i] := by
   unfold sV; show secs.getD i 0 = _
   rw [List.getD_eq_getElem?_getD, List.getElem?_eq_getElem hi]; rfl
  rw [e2] at q
  omega) (secF secs).length (secF_len secs)
 simp only [a1, a2, a3, a4, a5, a6, a7, k3, mk_bl]; simp
theorem readS_n {E : Ev} (h : LineN E) : readS (lineT E) = (false, E) := by
 obtain ⟨h1, h2, h3, h4, h5, h6, h7, h8, h9⟩ := h; obtain ⟨op, of_, holder, kind, secs, text⟩ := E; simp only at h1 h2 h3 h4 h5 h6 h7 h8 h9; unfold In at h1 h2; subst h3; obtain rfl : secs = [] := List.length_eq_zero_iff.1 h4; obtain ⟨m, rfl⟩ := Int.eq_ofNat_of_zero_le h2.1; have o1 : ¬ op = 1 := by omega
 have hw := wordB_low op; have ho : opOf (bl (wordB op)) = op := opOf_word ⟨by omega, by omega⟩; have tn : ((m : Nat) : Int).toNat = m := by omega
 by_cases o3 : op = 3
 ·
  subst o3
  have e : lineT ⟨3, (m : Int), holder, 0, [], text⟩ = bl (wordB 3) ++ (32 :: (Lib.decDigits m ++ (32 :: (bl holder ++ (58 :: 32 :: bl text))))) := by
   rw [lineT_3 rfl]; unfold ofL; simp [List.append_assoc, tn]
  rw [e]; unfold readS; have a1 := wordR_all (bl (wordB 3)) (32 :: (Lib.decDigits m ++ (32 :: (bl holder ++ (58 :: 32 :: bl text))))) hw (stopW_blank _); have a3 : takeR [32] (32 :: (Lib.decDigits m ++ (32 :: (bl holder ++ (58 :: 32 :: bl text))))) = (false, Lib.decDigits m ++ (32 :: (bl holder ++ (58 :: 32 :: bl text)))) := takeR_yes [32] _; obtain ⟨k, k0, a4⟩ := numR_dec m (by omega) (32 :: (bl holder ++ (58 :: 32 :: bl text))) (stopD_blank _); have a5 : takeR [32] (32 :: (bl holder ++ (58 :: 32 :: bl text))) = (false, bl holder ++ (58 :: 32 :: bl text)) := takeR_yes [32] _; have a6 := wordR_all (bl holder) (58 :: 32 :: bl text) (name_low (h5 (Or.inl rfl))) (stopW_colon _); have a7 : takeR [58, 32] (58 :: 32 :: bl text) = (false, bl text) := takeR_yes [58, 32] _; have kz : decide (k = 0) = false := decide_eq_false (by omega); simp only [a1, ho, a3, a4, a5, a6, a7, mk_bl, kz]; simp
 by_cases o4 : op = 4
 ·
  subst o4; obtain rfl := nil_of (h7 (by decide))
  have e : lineT ⟨4, (m : Int), holder, 0, [], ⟨#[]⟩⟩ = bl (wordB 4) ++ (32 :: (Lib.decDigits m ++ (32 :: (bl holder ++ [])))) := by
   rw [lineT_4 rfl]; unfold ofL; simp [List.append_assoc, tn]
  rw [e]; unfold readS; have a1 := wordR_all (bl (wordB 4)) (32 :: (Lib.decDigits m ++ (32 :: (bl holder ++ [])))) hw (stopW_blank _); have a3 : takeR [32] (32 :: (Lib.decDigits m ++ (32 :: (bl holder ++ [])))) = (false, Lib.decDigits m ++ (32 :: (bl holder ++ []))) := takeR_yes [32] _; obtain ⟨k, k0, a4⟩ := numR_dec m (by omega) (32 :: (bl holder ++ [])) (stopD_blank _); have a5 : takeR [32] (32 :: (bl holder ++ [])) = (false, bl holder ++ []) := takeR_yes [32] _; have a6 := wordR_all (bl holder) [] (name_low (h5 (Or.inr rfl))) stopW_nil; have kz : decide (k = 0) = false := decide_eq_false (by omega); simp only [a1, ho, a3, a4, a5, a6, mk_bl, kz]; simp
 obtain rfl := nil_of (h7 o3); obtain rfl := nil_of (h6 (by omega))
 have e : lineT ⟨op, (m : Int), ⟨#[]⟩, 0, [], ⟨#[]⟩⟩ = bl (wordB op) ++ (32 :: (Lib.decDigits m ++ [])) := by
  rw [lineT_0 o1 o3 o4]; unfold ofL; simp [tn]
 rw [e]; unfold readS; have a1 := wordR_all (bl (wordB op)) (32 :: (Lib.decDigits m ++ [])) hw (stopW_blank _); have a3 : takeR [32] (32 :: (Lib.decDigits m ++ [])) = (false, Lib.decDigits m ++ []) := takeR_yes [32] _; obtain ⟨k, k0, a4⟩ := numR_dec m (by omega) [] stopD_nil; have kz : decide (k = 0) = false := decide_eq_false (by omega); simp only [a1, ho, a3, a4, kz]; simp [o1, o3, o4]
theorem readS_line {E : Ev} (h : LineOk E) : readS (lineT E) = (false, E) := by
 rcases h with h | h
 · exact readS_w h
 · exact readS_n h
theorem lineT_inj {E E' : Ev} (h : LineOk E) (h' : LineOk E') (e : lineT E = lineT E') : E = E' := by
 have a := readS_line h; rw [e, readS_line h'] at a; exact (Prod.mk.inj a).2.symm
end Go.Proofs.YtdlaekjofgbjcaaGreatDoor
/-
 A line read as impl.Hear reads it, and that a line of an event is read back. Mine, by template (wip/gen.py).
-/
namespace Go.Proofs.YtdlaekjofgbjcaaGreatDoor
open Go.RowKit
def wordI (l : List UInt8) : List UInt8 × List UInt8 := ((Lib.cut l [32]).1, (Lib.cut l [32]).2.1)
theorem index_hit (a r : List UInt8) (x : UInt8) (xs : List UInt8) (h : ∀ b ∈ a, b ≠ x) : Lib.index (a ++ (x :: xs ++ r)) (x :: xs) = (a.length : Int) := by
 induction a with
 | nil =>
  show Lib.index (x :: (xs ++ r)) (x :: xs) = _
  unfold Lib.index; rw [if_pos (by simp [List.isPrefixOf])]; simp
 | cons b a ih =>
  have ih := ih (fun y hy => h y (List.mem_cons_of_mem _ hy)); have hb := h b (List.mem_cons_self ..); show Lib.index (b :: (a ++ (x :: xs ++ r))) (x :: xs) = _
  unfold Lib.index; rw [if_neg (by simp [List.isPrefixOf]; intro e; exact absurd e.symm hb), ih]; rw [if_neg (by simp)]; simp
theorem index_miss (a : List UInt8) (x : UInt8) (xs : List UInt8) (h : ∀ b ∈ a, b ≠ x) : Lib.index a (x :: xs) = -1 := by
 induction a with
 | nil => rfl
 | cons b a ih =>
  have ih := ih (fun y hy => h y (List.mem_cons_of_mem _ hy)); have hb := h b (List.mem_cons_self ..); unfold Lib.index; rw [if_neg (by simp [List.isPrefixOf]; intro e; exact absurd e.symm hb), ih]; rfl
theorem cut_hit (a r : List UInt8) (x : UInt8) (xs : List UInt8) (h : ∀ b ∈ a, b ≠ x) : Lib.cut (a ++ (x :: xs ++ r)) (x :: xs) = (a, r, true) := by
 unfold Lib.cut; rw [index_hit a r x xs h, if_pos (by omega)]; simp only [Int.toNat_natCast]; rw [List.take_left]
 have : (a ++ (x :: xs ++ r)).drop (a.length + (x :: xs).length) = r := by
  rw [← List.append_assoc, ← List.length_append, List.drop_left]
 rw [this]
theorem cut_miss (a : List UInt8) (x : UInt8) (xs : List UInt8) (h : ∀ b ∈ a, b ≠ x) : Lib.cut a (x :: xs) = (a, [], false) := by
 unfold Lib.cut; rw [index_miss a x xs h, if_neg (by omega)]
theorem wordI_hit (a r : List UInt8) (h : ∀ b ∈ a, b ≠ 32) : wordI (a ++ 32 :: r) = (a, r) := by
 have e := cut_hit a r 32 [] h; unfold wordI; rw [show a ++ 32 :: r = a ++ (32 :: [] ++ r) from rfl, e]
theorem wordI_miss (a : List UInt8) (h : ∀ b ∈ a, b ≠ 32) : wordI a = (a, []) := by
 unfold wordI; rw [cut_miss a 32 [] h]
theorem cut_len (l : List UInt8) (x : UInt8) (xs : List UInt8) (h : l ≠ []) : (Lib.cut l (x :: xs)).2.1.length < l.length := by
 have hp : 0 < l.length := List.length_pos_iff.2 h; unfold Lib.cut; split
 · simp only [List.length_drop, List.length_cons]; omega
 · simpa using hp
theorem wordI_len {l : List UInt8} (h : l ≠ []) : (wordI l).2.length < l.length := cut_len l 32 [] h
theorem cut_fst_len (l s : List UInt8) : (Lib.cut l s).1.length ≤ l.length := by
 unfold Lib.cut; split
 · simp only [List.length_take]; omega
 · simp
theorem cut_snd_len (l s : List UInt8) : (Lib.cut l s).2.1.length ≤ l.length := by
 unfold Lib.cut; split
 · simp only [List.length_drop]; omega
 · simp
def numI (l : List UInt8) : Option (Int × List UInt8) := match Lib.atoiAll (wordI l).1 with
 | .ok v => some (v, (wordI l).2)
 | _ => none
theorem atoi_dec (m : Nat) (hm : m < 1000) : Lib.atoiAll (Lib.decDigits m) = .ok (m : Int) := by
 have e : ∀ d, d < 10 → (UInt8.ofNat (48 + d)).toNat = 48 + d := fun d h => dg d h
 have f : ∀ (d : Nat) (r : List UInt8), d < 10 → ∀ u, Lib.parseUint10 0 (UInt8.ofNat (48 + d) :: r) = .ok u → u < 1000 → Lib.atoiAll (UInt8.ofNat (48 + d) :: r) = .ok (u : Int) := fun d r h u hu hlt => by
  rw [Lib.atoiAll_plain _ _ (by rw [e d h]; omega) (by rw [e d h]; omega)]; unfold Lib.parseMag; rw [if_neg (by simp), hu]; unfold Lib.signless; simp; omega
 rw [Lib.decDigits]; split
 ·
  next h1 =>
  refine f m [] h1 m ?_ hm; simp only [Lib.parseUint10, e m h1]; rw [if_pos (by omega), if_neg (by omega), if_neg (by omega)]; simp
 ·
  next h1 =>
  rw [Lib.decDigits]; split
  ·
   next h2 =>
   refine f (m / 10) [UInt8.ofNat (48 + m % 10)] h2 m ?_ hm; simp only [Lib.parseUint10, e (m / 10) h2, e (m % 10) (by omega)]; rw [if_pos (by omega), if_neg (by omega), if_neg (by omega), if_pos (by omega), if_neg (by omega), if_neg (by omega)]
   congr 1
   omega
  ·
   next h2 =>
   rw [Lib.decDigits, dif_pos (by omega)]; refine f (m / 10 / 10) [UInt8.ofNat (48 + m / 10 % 10), UInt8.ofNat (48 + m % 10)] (by omega) m ?_ hm; simp only [Lib.parseUint10, e (m / 10 / 10) (by omega), e (m / 10 % 10) (by omega), e (m % 10) (by omega)]; rw [if_pos (by omega), if_neg (by omega), if_neg (by omega), if_pos (by omega), if_neg (by omega), if_neg (by omega), if_pos (by omega), if_neg (by omega), if_neg (by omega)]
   congr 1
   omega
theorem dec_no (m : Nat) (hm : m < 1000) (x : UInt8) (hx : x.toNat < 48 ∨ 57 < x.toNat) : ∀ b ∈ Lib.decDigits m, b ≠ x := fun b hb e => by
 subst e
 have q : ∀ d, d < 10 → b = UInt8.ofNat (48 + d) → False := fun d h e => by
  rw [e, dg d h] at hx; omega
 rw [Lib.decDigits] at hb; split at hb
 ·
  next h1 =>
  simp only [List.mem_singleton] at hb; exact q m h1 hb
 ·
  next h1 =>
  rw [Lib.decDigits] at hb; split at hb
  ·
   next h2 =>
   simp only [List.mem_append, List.mem_singleton] at hb; rcases hb with hb | hb
   · exact q _ h2 hb
   · exact q _ (by omega) hb
  ·
   next h2 =>
   rw [Lib.decDigits, dif_pos (by omega)] at hb; simp only [List.mem_append, List.mem_singleton] at hb; rcases hb with (hb | hb) | hb
   · exact q _ (by omega) hb
   · exact q _ (by omega) hb
   · exact q _ (by omega) hb
theorem low_no {s : List UInt8} (h : ∀ b ∈ s, low b = true) (x : UInt8) (hx : x.toNat < 97 ∨ 122 < x.toNat) : ∀ b ∈ s, b ≠ x := fun b hb e => by
 have := h b hb; subst e; unfold low at this; simp at this; omega
theorem numI_hit (m : Nat) (hm : m < 1000) (r : List UInt8) : numI (Lib.decDigits m ++ 32 :: r) = some ((m : Int), r) := by
 unfold numI; rw [wordI_hit _ _ (dec_no m hm 32 (by decide)), atoi_dec m hm]
theorem numI_end (m : Nat) (hm : m < 1000) : numI (Lib.decDigits m) = some ((m : Int), []) := by
 unfold numI; rw [wordI_miss _ (dec_no m hm 32 (by decide)), atoi_dec m hm]
theorem numI_len {l r : List UInt8} {v : Int} (h : l ≠ []) (hn : numI l = some (v, r)) : r.length < l.length := by
 unfold numI at hn; split at hn
 ·
  simp only [Option.some.injEq, Prod.mk.injEq] at hn; rw [← hn.2]; exact wordI_len h
 · cases hn
def secsJ : Nat → List UInt8 → Option (List Int)
 | 0, l => if l = [] then some [] else none
 | f + 1, l => if l = [] then some [] else match numI l with
  | some (v, r) => (secsJ f r).map (v :: ·)
  | none => none
def secsI (l : List UInt8) : Option (List Int) := secsJ l.length l
theorem secsJ_nil (f : Nat) : secsJ f [] = some [] := by cases f <;> simp [secsJ]
theorem secsJ_more (f : Nat) : ∀ (g : Nat) (l : List UInt8), l.length ≤ f → l.length ≤ g → secsJ f l = secsJ g l := by
 induction f with
 | zero =>
  intro g l h1 _; obtain rfl : l = [] := List.length_eq_zero_iff.1 (by omega); rw [secsJ_nil, secsJ_nil]
 | succ f ih =>
  intro g l h1 h2
  by_cases h : l = []
  · rw [h, secsJ_nil, secsJ_nil]
  have hp : 0 < l.length := List.length_pos_iff.2 h; obtain ⟨g, rfl⟩ : ∃ k, g = k + 1 := ⟨g - 1, by omega⟩; simp only [secsJ]; rw [if_neg h, if_neg h]; cases hn : numI l with
  | none => rfl
  | some x =>
   obtain ⟨v, r⟩ := x; have := numI_len h hn; simp only; rw [ih g r (by omega) (by omega)]
theorem secsI_nil : secsI [] = some [] := secsJ_nil _
theorem secsI_some {l r : List UInt8} {v : Int} (h : l ≠ []) (hn : numI l = some (v, r)) : secsI l = (secsI r).map (v :: ·) := by
 have hp : 0 < l.length := List.length_pos_iff.2 h; have hl := numI_len h hn; unfold secsI; obtain ⟨k, hk⟩ : ∃ k, l.length = k + 1 := ⟨l.length - 1, by omega⟩; rw [hk]; simp only [secsJ]; rw [if_neg h, hn]; simp only; rw [secsJ_more k r.length r (by omega) (by omega)]
theorem secsI_none {l : List UInt8} (h : l ≠ []) (hn : numI l = none) : secsI l = none := by
 have hp : 0 < l.length := List.length_pos_iff.2 h; unfold secsI; obtain ⟨k, hk⟩ : ∃ k, l.length = k + 1 := ⟨l.length - 1, by omega⟩; rw [hk]; simp only [secsJ]; rw [if_neg h, hn]
def secG : List Int → List UInt8
 | [] => []
 | x :: xs => Lib.decDigits x.toNat ++ secF xs
theorem secF_secG (x : Int) (xs : List Int) : secF (x :: xs) = 32 :: secG (x :: xs) := by simp [secF, secG]
theorem dec_ne (m : Nat) : Lib.decDigits m ≠ [] := by
 rw [Lib.decDigits]
 split <;> simp
theorem secsI_secG (xs : List Int) (h : ∀ x ∈ xs, 0 ≤ x ∧ x < 1000) : secsI (secG xs) = some xs := by
 induction xs with
 | nil => exact secsI_nil
 | cons x xs ih =>
  have hx := h x (List.mem_cons_self ..); have ih := ih (fun y hy => h y (List.mem_cons_of_mem _ hy))
  have ne : secG (x :: xs) ≠ [] := by
   show Lib.decDigits x.toNat ++ secF xs ≠ []
   have := dec_ne x.toNat; simp [this]
  have xx : ((x.toNat : Nat) : Int) = x := by omega
  cases xs with
  | nil =>
   have e : numI (secG [x]) = some (x, []) := by
    show numI (Lib.decDigits x.toNat ++ []) = _
    rw [List.append_nil, numI_end _ (by omega), xx]
   rw [secsI_some ne e, secsI_nil]; rfl
  | cons y ys =>
   have e : numI (secG (x :: y :: ys)) = some (x, secG (y :: ys)) := by
    show numI (Lib.decDigits x.toNat ++ secF (y :: ys)) = _
    rw [secF_secG, numI_hit _ (by omega), xx]
   rw [secsI_some ne e, ih]; rfl
def readI (l : List UInt8) : Option Ev :=
 if opOf (wordI l).1 = 0 then none
 else if opOf (wordI l).1 = 1 then
  if kindOfL (wordI (wordI (wordI l).2).2).1 = 0 then none
  else (secsI (wordI (wordI (wordI l).2).2).2).map fun s => ⟨1, 0, ⟨(wordI (wordI l).2).1.toArray⟩, kindOfL (wordI (wordI (wordI l).2).2).1, s, ⟨#[]⟩⟩
 else match numI (wordI l).2 with
  | none => none
  | some (v, r) =>
   if opOf (wordI l).1 = 3 then some ⟨3, v, ⟨(Lib.cut r [58, 32]).1.toArray⟩, 0, [], ⟨(Lib.cut r [58, 32]).2.1.toArray⟩⟩
   else if opOf (wordI l).1 = 4 then some ⟨4, v, ⟨(wordI r).1.toArray⟩, 0, [], ⟨#[]⟩⟩
   else some ⟨opOf (wordI l).1, v, ⟨#[]⟩, 0, [], ⟨#[]⟩⟩
theorem readI_w {E : Ev} (h : LineW E) : readI (lineT E) = some E := by
 obtain ⟨o, h1, h2, h3, h4, h5⟩ := h; obtain ⟨op, of_, holder, kind, secs, text⟩ := E; simp only at o h1 h2 h3 h4 h5; subst o; subst h1; obtain rfl := nil_of h5
 have hk : ∃ kw : List UInt8, kindL kind = 32 :: kw ∧ (∀ b ∈ kw, b ≠ 32) ∧ kindOfL kw = kind := by
  unfold In at h3; rcases (show kind = 1 ∨ kind = 2 by omega) with rfl | rfl
  · exact ⟨[112, 97, 115, 115], rfl, by decide, by decide⟩
  · exact ⟨[119, 111, 114, 107], rfl, by decide, by decide⟩
 obtain ⟨kw, k1, k2, k3⟩ := hk
 have hs : secT (eOrd ⟨1, 0, holder, kind, secs, ⟨#[]⟩⟩) secs.length = secF secs := by
  refine (secT_secF (eOrd ⟨1, 0, holder, kind, secs, ⟨#[]⟩⟩) secs.length (Nat.le_refl _)).trans ?_; show secF (secs.take secs.length) = _
  rw [List.take_length]
 have e : lineT ⟨1, 0, holder, kind, secs, ⟨#[]⟩⟩ = bl (wordB 1) ++ (32 :: (bl holder ++ (32 :: (kw ++ secF secs)))) := by
  rw [lineT_1 rfl]; unfold baseL; simp only [hs, k1]; simp [List.append_assoc]
 have a7 := secsI_secG secs (fun x hx => by
  obtain ⟨i, hi, rfl⟩ := List.getElem_of_mem hx; have q := h4.1 i hi
  have e2 : sV (eOrd ⟨1, 0, holder, kind, secs, ⟨#[]⟩⟩) i = secs[i] := by
   unfold sV; show secs.getD i 0 = _
   rw [List.getD_eq_getElem?_getD, List.getElem?_eq_getElem hi]; rfl
  rw [e2] at q
  omega)
 have a6 : wordI (kw ++ secF secs) = (kw, secG secs) := by
  cases secs with
  | nil =>
   show wordI (kw ++ []) = _
   rw [List.append_nil, wordI_miss _ k2]; rfl
  | cons x xs => rw [secF_secG, wordI_hit _ _ k2]
 have a1 := wordI_hit (bl (wordB 1)) (bl holder ++ (32 :: (kw ++ secF secs))) (low_no (wordB_low 1) 32 (by decide)); have a2 : opOf (bl (wordB 1)) = 1 := opOf_word ⟨by decide, by decide⟩; have a4 := wordI_hit (bl holder) (kw ++ secF secs) (low_no (name_low h2) 32 (by decide)); have kz : ¬ kind = 0 := by unfold In at h3; omega
 rw [e]; unfold readI; simp only [a1, a2, a4, a6, a7, k3, mk_bl]; simp [kz]
theorem readI_n {E : Ev} (h : LineN E) : readI (lineT E) = some E := by
 obtain ⟨h1, h2, h3, h4, h5, h6, h7, h8, h9⟩ := h; obtain ⟨op, of_, holder, kind, secs, text⟩ := E; simp only at h1 h2 h3 h4 h5 h6 h7 h8 h9; unfold In at h1 h2; subst h3; obtain rfl : secs = [] := List.length_eq_zero_iff.1 h4; obtain ⟨m, rfl⟩ := Int.eq_ofNat_of_zero_le h2.1; have o1 : ¬ op = 1 := by omega
 have o0 : ¬ op = 0 := by omega
 have hw := low_no (wordB_low op) 32 (by decide); have ho : opOf (bl (wordB op)) = op := opOf_word ⟨by omega, by omega⟩; have tn : ((m : Nat) : Int).toNat = m := by omega
 by_cases o3 : op = 3
 ·
  subst o3
  have e : lineT ⟨3, (m : Int), holder, 0, [], text⟩ = bl (wordB 3) ++ (32 :: (Lib.decDigits m ++ (32 :: (bl holder ++ (58 :: [32] ++ bl text))))) := by
   rw [lineT_3 rfl]; unfold ofL; simp [List.append_assoc, tn]
  rw [e]; unfold readI; have a1 := wordI_hit (bl (wordB 3)) (Lib.decDigits m ++ (32 :: (bl holder ++ (58 :: [32] ++ bl text)))) hw; have a4 := numI_hit m (by omega) (bl holder ++ (58 :: [32] ++ bl text)); have a6 := cut_hit (bl holder) (bl text) 58 [32] (low_no (name_low (h5 (Or.inl rfl))) 58 (by decide)); simp only [a1, ho, a4, a6, mk_bl]; simp
 by_cases o4 : op = 4
 ·
  subst o4; obtain rfl := nil_of (h7 (by decide))
  have e : lineT ⟨4, (m : Int), holder, 0, [], ⟨#[]⟩⟩ = bl (wordB 4) ++ (32 :: (Lib.decDigits m ++ (32 :: bl holder))) := by
   rw [lineT_4 rfl]; unfold ofL; simp [List.append_assoc, tn]
  rw [e]; unfold readI; have a1 := wordI_hit (bl (wordB 4)) (Lib.decDigits m ++ (32 :: bl holder)) hw; have a4 := numI_hit m (by omega) (bl holder); have a6 := wordI_miss (bl holder) (low_no (name_low (h5 (Or.inr rfl))) 32 (by decide)); simp only [a1, ho, a4, a6, mk_bl]; simp
 obtain rfl := nil_of (h7 o3); obtain rfl := nil_of (h6 (by omega))
 have e : lineT ⟨op, (m : Int), ⟨#[]⟩, 0, [], ⟨#[]⟩⟩ = bl (wordB op) ++ (32 :: Lib.decDigits m) := by
  rw [lineT_0 o1 o3 o4]; unfold ofL; simp [tn]
 rw [e]; unfold readI; have a1 := wordI_hit (bl (wordB op)) (Lib.decDigits m) hw; have a4 := numI_end m (by omega); simp only [a1, ho, a4]; simp [o0, o1, o3, o4]
theorem readI_line {E : Ev} (h : LineOk E) : readI (lineT E) = some E := by
 rcases h with h | h
 · exact readI_w h
 · exact readI_n h
end Go.Proofs.YtdlaekjofgbjcaaGreatDoor
