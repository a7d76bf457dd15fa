/-
 The line of an event, as bytes. Mine, by template (wip/gen.py).
-/
import Derived.Test.YtdlaekjofgbjcaaGreatDoorEvZ
import Derived.Test.YtdlaekjofgbjcaaGreatDoorTextZ
namespace Go.Proofs.YtdlaekjofgbjcaaGreatDoor
open Go.RowKit
def wordB (k : Int) : ByteArray :=
 if k = 1 then ⟨#[119, 114, 105, 116, 101]⟩ else if k = 2 then ⟨#[103, 105, 118, 101]⟩ else if k = 3 then ⟨#[114, 101, 112, 101, 97, 116]⟩ else if k = 4 then ⟨#[98, 97, 99, 107]⟩
 else if k = 5 then ⟨#[99, 97, 110, 99, 101, 108]⟩ else if k = 6 then ⟨#[108, 111, 99, 107]⟩ else if k = 7 then ⟨#[117, 110, 108, 111, 99, 107]⟩ else if k = 8 then ⟨#[111, 99, 99, 117, 112, 105, 101, 100]⟩ else ⟨#[102, 114, 101, 101]⟩
theorem one_to_nine {k : Int} (h : In k 1 9) : k = 1 ∨ k = 2 ∨ k = 3 ∨ k = 4 ∨ k = 5 ∨ k = 6 ∨ k = 7 ∨ k = 8 ∨ k = 9 := by
 unfold In at h; omega
theorem wordB_size (k : Int) : (wordB k).size ≤ 8 := by
 unfold wordB
 repeat (split; · decide)
 decide
def NoNl (t : ByteArray) : Prop := ∀ i, i < t.size → chr t i ≠ 10
theorem noNl_empty {t : ByteArray} (h : t.size = 0) : NoNl t := fun i hi => absurd hi (by omega)
def LineW (E : Ev) : Prop := E.op = 1 ∧ E.of_ = 0 ∧ NameOk E.holder ∧ In E.kind 1 2 ∧ ListOk E.secs.length (sV (eOrd E)) 60 ∧ E.text.size = 0
def LineN (E : Ev) : Prop := In E.op 2 9 ∧ In E.of_ 0 199 ∧ E.kind = 0 ∧ E.secs.length = 0 ∧ (E.op = 3 ∨ E.op = 4 → NameOk E.holder) ∧ (¬ (E.op = 3 ∨ E.op = 4) → E.holder.size = 0) ∧ (E.op ≠ 3 → E.text.size = 0) ∧ E.text.size ≤ 200 ∧ NoNl E.text
def LineOk (E : Ev) : Prop := LineW E ∨ LineN E
def kindL (k : Int) : List UInt8 := if k = 1 then [32, 112, 97, 115, 115] else [32, 119, 111, 114, 107]
def nameL (E : Ev) : List UInt8 := if E.op = 3 ∨ E.op = 4 then 32 :: bl E.holder else []
def textL (E : Ev) : List UInt8 := if E.op = 3 then 58 :: 32 :: bl E.text else []
def baseL (E : Ev) : List UInt8 := bl (wordB 1) ++ (32 :: bl E.holder) ++ kindL E.kind
def ofL (E : Ev) : List UInt8 := bl (wordB E.op) ++ (32 :: Lib.decDigits E.of_.toNat)
def lineT (E : Ev) : List UInt8 :=
 if E.op = 1 then baseL E ++ secT (eOrd E) E.secs.length else ofL E ++ nameL E ++ textL E
def RetLn (e : Ending) (E : Ev) : Prop := ∃ s, e = .returned (.string s) ∧ ((LineOk E ∧ bl s = lineT E) ∨ (¬ LineOk E ∧ bl s = []))
theorem RetLn.no {E : Ev} (h : ¬ LineOk E) : RetLn (.returned (.string ⟨#[]⟩)) E := ⟨_, rfl, Or.inr ⟨h, rfl⟩⟩
theorem RetLn.yes {E : Ev} {s : ByteArray} (h : LineOk E) (hs : bl s = lineT E) : RetLn (.returned (.string s)) E := ⟨_, rfl, Or.inl ⟨h, hs⟩⟩
theorem RetLn.same {e e' : Ending} {E : Ev} (h : RetLn e E) (h' : RetLn e' E) : ∃ s, e = .returned (.string s) ∧ e' = .returned (.string s) := by
 obtain ⟨s, hs, c⟩ := h; obtain ⟨s', hs', c'⟩ := h'
 have : s = s' := by
  apply bl_inj
  rcases c with ⟨a, b⟩ | ⟨a, b⟩ <;> rcases c' with ⟨a', b'⟩ | ⟨a', b'⟩
  · rw [b, b']
  · exact absurd a a'
  · exact absurd a' a
  · rw [b, b']
 subst this; exact ⟨s, hs, hs'⟩
theorem LineOk.w {E : Ev} (h : LineOk E) (o : E.op = 1) : LineW E := by
 rcases h with h | h
 · exact h
 · have := h.1; unfold In at this; omega
theorem LineOk.n {E : Ev} (h : LineOk E) (o : ¬ E.op = 1) : LineN E := by
 rcases h with h | h
 · exact absurd h.1 o
 · exact h
theorem LineOk.in19 {E : Ev} (h : LineOk E) : In E.op 1 9 := by
 rcases h with q | q
 ·
  have := q.1; unfold In; omega
 ·
  have := q.1; unfold In at this ⊢; omega
theorem lineT_1 {E : Ev} (o : E.op = 1) : lineT E = baseL E ++ secT (eOrd E) E.secs.length := if_pos o
theorem lineT_3 {E : Ev} (o : E.op = 3) : lineT E = ofL E ++ (32 :: bl E.holder) ++ (58 :: 32 :: bl E.text) := by
 unfold lineT nameL textL; rw [if_neg (by omega), if_pos (Or.inl o), if_pos o]
theorem lineT_4 {E : Ev} (o : E.op = 4) : lineT E = ofL E ++ (32 :: bl E.holder) := by
 unfold lineT nameL textL; rw [if_neg (by omega), if_pos (Or.inr o), if_neg (by omega), List.append_nil]
theorem lineT_0 {E : Ev} (o : ¬ E.op = 1) (p : ¬ E.op = 3) (q : ¬ E.op = 4) : lineT E = ofL E := by
 unfold lineT nameL textL; rw [if_neg o, if_neg (by omega), if_neg p, List.append_nil, List.append_nil]
theorem bl_base {holder : ByteArray} {wd kt : ByteArray} : bl (wd ++ (⟨#[32]⟩ ++ holder ++ kt)) = bl wd ++ (32 :: bl holder) ++ bl kt := by
 rw [bl_append, bl_append, bl_append]; simp [bl]
theorem bl_of {wd d : ByteArray} {m : Nat} (h : bl d = Lib.decDigits m) : bl (wd ++ (⟨#[32]⟩ ++ d)) = bl wd ++ (32 :: Lib.decDigits m) := by
 rw [bl_append, bl_append, h]; rfl
theorem bl_blank (s t : ByteArray) : bl (s ++ (⟨#[32]⟩ ++ t)) = bl s ++ (32 :: bl t) := by
 rw [bl_append, bl_append]; rfl
theorem bl_colon (s t : ByteArray) : bl (s ++ (⟨#[58, 32]⟩ ++ t)) = bl s ++ (58 :: 32 :: bl t) := by
 rw [bl_append, bl_append]; rfl
end Go.Proofs.YtdlaekjofgbjcaaGreatDoor
