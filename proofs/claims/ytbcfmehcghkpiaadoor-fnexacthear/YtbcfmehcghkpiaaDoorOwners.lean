/-
  The contract of impl.sectionOwners. Mine, by template (wip/gen.py).
-/
import Derived.Test.YtbcfmehcghkpiaaDoorMap
import Derived.Test.YtbcfmehcghkpiaaDoorSBook
namespace Go.Proofs.YtbcfmehcghkpiaaDoor
open Go.RowKit

def HasS (x : Ord) (l : Nat) (s : Int) : Prop := ∃ q, q < l ∧ sV x q = s
def OwnP (X : Nat → Ord) (k l i : Nat) (s : Int) : Prop := OpenP (X i).state ∧ ((i < k ∧ HasS (X i) (X i).secs.length s) ∨ (i = k ∧ HasS (X k) l s))
/-- The map holds just the sections of the open orders below k, and of k's first l. -/
def Inv (X : Nat → Ord) (k l : Nat) (F : Int → Option Int) : Prop := (∀ s v, F s = some v → ∃ i : Nat, v = (i : Int) ∧ OwnP X k l i s) ∧ ∀ s (i : Nat), OwnP X k l i s → F s = some (i : Int)

theorem Inv.start (X : Nat → Ord) : Inv X 0 0 (fun _ => none) :=
  ⟨fun _ _ h => (by cases h), fun _ _ h => by
    rcases h.2 with ⟨h1, _⟩ | ⟨_, q, h1, _⟩
    · omega
    · omega⟩

theorem Inv.skip {X : Nat → Ord} {k : Nat} {F : Int → Option Int} (h : Inv X k 0 F) (ho : ¬ OpenP (X k).state) : Inv X (k + 1) 0 F := by
  refine ⟨fun s v e => ?_, fun s i p => ?_⟩
  · obtain ⟨i, rfl, p1, p2⟩ := h.1 s v e
    refine ⟨i, rfl, p1, ?_⟩
    rcases p2 with ⟨a, b⟩ | ⟨_, q, a, _⟩
    · exact Or.inl ⟨by omega, b⟩
    · omega
  · refine h.2 s i ⟨p.1, ?_⟩
    rcases p.2 with ⟨a, b⟩ | ⟨_, q, a, _⟩
    · by_cases e : i = k
      · subst e; exact absurd p.1 ho
      · exact Or.inl ⟨by omega, b⟩
    · omega

theorem Inv.done {X : Nat → Ord} {k : Nat} {F : Int → Option Int} (h : Inv X k (X k).secs.length F) : Inv X (k + 1) 0 F := by
  refine ⟨fun s v e => ?_, fun s i p => ?_⟩
  · obtain ⟨i, rfl, p1, p2⟩ := h.1 s v e
    refine ⟨i, rfl, p1, ?_⟩
    rcases p2 with ⟨a, b⟩ | ⟨rfl, b⟩
    · exact Or.inl ⟨by omega, b⟩
    · exact Or.inl ⟨by omega, b⟩
  · refine h.2 s i ⟨p.1, ?_⟩
    rcases p.2 with ⟨a, b⟩ | ⟨_, q, a, _⟩
    · by_cases e : i = k
      · subst e; exact Or.inr ⟨rfl, b⟩
      · exact Or.inl ⟨by omega, b⟩
    · omega

theorem Inv.store {X : Nat → Ord} {k l : Nat} {F : Int → Option Int} (h : Inv X k l F) (ho : OpenP (X k).state) (hn : F (sV (X k) l) = none) : Inv X k (l + 1) (fun t => if t = sV (X k) l then some (k : Int) else F t) := by
  refine ⟨fun s v e => ?_, fun s i p => ?_⟩
  · by_cases es : s = sV (X k) l
    · simp only [if_pos es] at e
      injection e with e
      exact ⟨k, e.symm, ho, Or.inr ⟨rfl, l, by omega, es.symm⟩⟩
    · simp only [if_neg es] at e
      obtain ⟨i, rfl, p1, p2⟩ := h.1 s v e
      refine ⟨i, rfl, p1, ?_⟩
      rcases p2 with a | ⟨a, q, b, c⟩
      · exact Or.inl a
      · exact Or.inr ⟨a, q, by omega, c⟩
  · by_cases es : s = sV (X k) l
    · simp only [if_pos es]
      rcases p.2 with ⟨a, b⟩ | ⟨a, _⟩
      · have := h.2 s i ⟨p.1, Or.inl ⟨a, b⟩⟩
        rw [es, hn] at this
        cases this
      · rw [a]
    · simp only [if_neg es]
      refine h.2 s i ⟨p.1, ?_⟩
      rcases p.2 with a | ⟨a, q, b, c⟩
      · exact Or.inl a
      · refine Or.inr ⟨a, q, ?_, c⟩
        by_cases e : q = l
        · subst e; exact absurd c.symm es
        · omega

theorem asc_inj {n : Nat} {V : Nat → Int} {lim : Int} (h : ListOk n V lim) : ∀ d i, i + d + 1 < n + 1 → i + d < n → 0 < d → V i < V (i + d) := by
  intro d
  induction d with
  | zero => intro i _ _ h0; omega
  | succ d ih =>
    intro i _ h2 _
    have s1 := (h.1 (i + (d + 1)) h2).2.2 (by omega)
    have e : i + (d + 1) - 1 = i + d := by omega
    rw [e] at s1
    by_cases hd : d = 0
    · subst hd; exact s1
    · have := ih i (by omega) (by omega) (by omega); omega

theorem Inv.clash {X : Nat → Ord} {k l : Nat} {F : Int → Option Int} {lim : Int} {v : Int} (h : Inv X k l F) (ho : OpenP (X k).state) (hl : l < (X k).secs.length) (hk : ListOk (X k).secs.length (sV (X k)) lim) (e : F (sV (X k) l) = some v) : ∃ j, j < k ∧ Clash (X k) (X j) := by
  obtain ⟨i, _, p1, p2⟩ := h.1 _ _ e
  rcases p2 with ⟨a, q, b, c⟩ | ⟨rfl, q, b, c⟩
  · exact ⟨i, a, ho, p1, l, q, hl, b, c.symm⟩
  · have := asc_inj hk (l - q) q (by omega) (by omega) (by omega)
    rw [show q + (l - q) = l by omega] at this
    omega

theorem Inv.alone {X : Nat → Ord} {n : Nat} {F : Int → Option Int} (h : Inv X n 0 F) {i j : Nat} (hi : i < n) (hj : j < i) : ¬ Clash (X i) (X j) := by
  rintro ⟨o1, o2, a, b, ha, hb, e⟩
  have e1 := h.2 (sV (X i) a) i ⟨o1, Or.inl ⟨hi, a, ha, rfl⟩⟩
  have e2 := h.2 (sV (X i) a) j ⟨o2, Or.inl ⟨by omega, b, hb, e.symm⟩⟩
  rw [e1] at e2
  injection e2 with e2
  omega

/-- What sectionOwners answers. -/
def RetOwn (e : Ending) (lo : Nat) (w' : World) (n : Nat) (X : Nat → Ord) : Prop :=
  (∃ g m F, e = .returned (.tuple #[.map (some g), .bool true]) ∧ lo ≤ g ∧ MapIs w' g m F ∧ Inv X n 0 F) ∨
  (e = .returned (.tuple #[.map none, .bool false]) ∧ ∃ i j, i < n ∧ j < i ∧ Clash (X i) (X j))

end Go.Proofs.YtbcfmehcghkpiaaDoor
