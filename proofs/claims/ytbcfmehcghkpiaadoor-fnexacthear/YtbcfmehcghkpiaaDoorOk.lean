/-
  What it is to be right: plain propositions; the contracts of the small readers of spec and impl. Mine, by template (wip/gen.py).
-/
import Derived.Test.YtbcfmehcghkpiaaDoorBaseZ
namespace Go.Proofs.YtbcfmehcghkpiaaDoor
open Go.RowKit

def In (x a b : Int) : Prop := a ≤ x ∧ x ≤ b
def chr (s : ByteArray) (i : Nat) : Nat := (s.data.toList.getD i 0).toNat
def NameOk (s : ByteArray) : Prop := (∀ i, i < s.size → 97 ≤ chr s i ∧ chr s i ≤ 122) ∧ 1 ≤ s.size ∧ s.size ≤ 20
def ListOk (n : Nat) (V : Nat → Int) (lim : Int) : Prop := (∀ i, i < n → 0 ≤ V i ∧ V i ≤ lim - 1 ∧ (0 < i → V (i - 1) < V i)) ∧ 1 ≤ n ∧ n ≤ 20
def OpenP (t : Int) : Prop := t = 2 ∨ t = 3
def Meet (n m : Nat) (V U : Nat → Int) : Prop := ∃ i j, i < n ∧ j < m ∧ V i = U j
def sV (x : Ord) (i : Nat) : Int := x.secs.getD i 0
def OrdOk (x : Ord) (lim : Int) : Prop := NameOk x.holder ∧ In x.kind 1 2 ∧ ListOk x.secs.length (sV x) lim ∧ In x.state 1 5

/-- A call's answer is a bool that tells whether p. -/
def RetB (e : Ending) (p : Prop) : Prop := ∃ r : Bool, e = .returned (.bool r) ∧ (r = true ↔ p)
theorem RetB.t {p : Prop} (h : p) : RetB (.returned (.bool true)) p := ⟨true, rfl, ⟨fun _ => h, fun _ => rfl⟩⟩
theorem RetB.f {p : Prop} (h : ¬ p) : RetB (.returned (.bool false)) p := ⟨false, rfl, ⟨fun e => (by cases e), fun q => absurd q h⟩⟩
/-- By cases. -/
theorem RetB.cases {e : Ending} {p : Prop} (h : RetB e p) : (e = .returned (.bool true) ∧ p) ∨ (e = .returned (.bool false) ∧ ¬ p) := by
  obtain ⟨r, e, h⟩ := h
  cases r with
  | true => exact Or.inl ⟨e, h.1 rfl⟩
  | false => exact Or.inr ⟨e, fun q => by have := h.2 q; cases this⟩

theorem chr_eq (s : ByteArray) (i : Nat) (h : i < s.size) : (s[i].toNat : Int) = (chr s i : Int) := by
  have : s.data.toList.getD i 0 = s[i] := by
    have h' : i < s.data.toList.length := by simpa using h
    rw [List.getD_eq_getElem?_getD, List.getElem?_eq_getElem h']; rfl
  unfold chr; rw [this]

set_option maxHeartbeats 400000 in
theorem l1in_any (x a b : Int) (w : World) :
    Calls Tryd.prog 20 #[.int .i64 x, .int .i64 a, .int .i64 b] w fun e w' => RetB e (In x a b) ∧ w' = w := by
  by_cases h : a ≤ x
  · by_cases h2 : x ≤ b
    · go_enter Tryd.func20, Tryd.ntmps20
      go_wp2
      go_ret
      exact ⟨RetB.t ⟨h, h2⟩, rfl⟩
    · go_enter Tryd.func20, Tryd.ntmps20
      go_wp2
      go_ret
      exact ⟨RetB.f (fun q => by have := q.1; have := q.2; omega), rfl⟩
  · go_enter Tryd.func20, Tryd.ntmps20
    go_wp2
    go_ret
    exact ⟨RetB.f (fun q => by have := q.1; have := q.2; omega), rfl⟩

set_option maxHeartbeats 400000 in
theorem l1name_any (s : ByteArray) (w : World) (hs : s.size ≤ 4294967296) :
    Calls Tryd.prog 21 #[.string s] w fun e w' => RetB e (NameOk s) ∧ w' = w := by
  go_enter Tryd.func21, Tryd.ntmps21
  go_wp2
  go_loop [3] (fun i => ∃ k : Nat, k ≤ s.size ∧ i = .int .i64 k ∧ ∀ j, j < k → 97 ≤ chr s j ∧ chr s j ≤ 122) (fun i => s.size - (intOf i).toNat)
  case atStart => exact ⟨0, Nat.zero_le _, rfl, fun j hj => absurd hj (by omega)⟩
  case round =>
    obtain ⟨k, hk, rfl, hall⟩ := hrel
    have HA : Hid (∀ j, j < k → 97 ≤ chr s j ∧ chr s j ≤ 122) := hall
    clear hall
    by_cases hlt : k < s.size
    · have hc := chr_eq s k hlt
      have HC : Hid ((s[k].toNat : Int) = (chr s k : Int)) := hc
      clear hc
      by_cases h1 : (s[k].toNat : Int) < 97
      · go_wp2
        go_ret
        refine ⟨RetB.f ?_, rfl⟩
        intro h
        have := h.1 k hlt
        have := HC.out
        omega
      · by_cases h2 : 122 < (s[k].toNat : Int)
        · go_wp2
          go_ret
          refine ⟨RetB.f ?_, rfl⟩
          intro h
          have := h.1 k hlt
          have := HC.out
          omega
        · go_wp2
          go_round
          case rel =>
            refine ⟨k + 1, by omega, by go_num, fun j hj => ?_⟩
            by_cases e : j = k
            · subst e; have := HC.out; omega
            · exact HA.out j (by omega)
          case measure => simp [intOf]; omega
    · obtain rfl : k = s.size := by omega
      by_cases h1 : 1 ≤ s.size
      · by_cases h2 : s.size ≤ 20
        · have t2 : decide ((s.size : Int) ≤ 20) = true := by simp; omega
          go_wp2
          go_ret
          exact ⟨RetB.t ⟨HA.out, h1, h2⟩, rfl⟩
        · have t2 : decide ((s.size : Int) ≤ 20) = false := by simp; omega
          go_wp2
          go_ret
          exact ⟨RetB.f (fun h => by have := h.2.2; omega), rfl⟩
      · go_wp2
        go_ret
        exact ⟨RetB.f (fun h => by have := h.2.1; omega), rfl⟩

set_option maxHeartbeats 400000 in
theorem nameOk_any (s : ByteArray) (w : World) (hs : s.size ≤ 4294967296) :
    Calls Tryd.prog 37 #[.string s] w fun e w' => RetB e (NameOk s) ∧ w' = w := by
  by_cases h1 : 1 ≤ s.size
  · by_cases h2 : s.size ≤ 20
    · have t1 : decide ((s.size : Int) < 1) = false := by simp; omega
      have t2 : decide (20 < (s.size : Int)) = false := by simp; omega
      go_enter Tryd.func37, Tryd.ntmps37
      go_wp2
      clear t1 t2
      go_loop [14] (fun i => ∃ k : Nat, k ≤ s.size ∧ i = .int .i64 k ∧ ∀ j, j < k → 97 ≤ chr s j ∧ chr s j ≤ 122) (fun i => s.size - (intOf i).toNat)
      case atStart => exact ⟨0, Nat.zero_le _, rfl, fun j hj => absurd hj (by omega)⟩
      case round =>
        obtain ⟨k, hk, rfl, hall⟩ := hrel
        have HA : Hid (∀ j, j < k → 97 ≤ chr s j ∧ chr s j ≤ 122) := hall
        clear hall
        by_cases hlt : k < s.size
        · have hc := chr_eq s k hlt
          have HC : Hid ((s[k].toNat : Int) = (chr s k : Int)) := hc
          clear hc
          by_cases g1 : (s[k].toNat : Int) < 97
          · go_wp2
            go_ret
            refine ⟨RetB.f ?_, rfl⟩
            intro h
            have := h.1 k hlt
            have := HC.out
            omega
          · by_cases g2 : 122 < (s[k].toNat : Int)
            · go_wp2
              go_ret
              refine ⟨RetB.f ?_, rfl⟩
              intro h
              have := h.1 k hlt
              have := HC.out
              omega
            · go_wp2
              go_round
              case rel =>
                refine ⟨k + 1, by omega, by go_num, fun j hj => ?_⟩
                by_cases e : j = k
                · subst e; have := HC.out; omega
                · exact HA.out j (by omega)
              case measure => simp [intOf]; omega
        · obtain rfl : k = s.size := by omega
          go_wp2
          go_ret
          exact ⟨RetB.t ⟨HA.out, h1, h2⟩, rfl⟩
    · go_enter Tryd.func37, Tryd.ntmps37
      go_wp2
      go_ret
      exact ⟨RetB.f (fun h => by have := h.2.2; omega), rfl⟩
  · go_enter Tryd.func37, Tryd.ntmps37
    go_wp2
    go_ret
    exact ⟨RetB.f (fun h => by have := h.2.1; omega), rfl⟩

set_option maxHeartbeats 400000 in
theorem kindOk_any (x : Int) (w : World) :
    Calls Tryd.prog 38 #[.int .i64 x] w fun e w' => RetB e (In x 1 2) ∧ w' = w := by
  by_cases h1 : x = 1
  · subst h1
    go_enter Tryd.func38, Tryd.ntmps38
    go_wp2
    go_ret
    exact ⟨RetB.t ⟨by omega, by omega⟩, rfl⟩
  · by_cases h2 : x = 2
    · subst h2
      go_enter Tryd.func38, Tryd.ntmps38
      go_wp2
      go_ret
      exact ⟨RetB.t ⟨by omega, by omega⟩, rfl⟩
    · have t1 : (x == 1) = false := by simpa using h1
      have t2 : (x == 2) = false := by simpa using h2
      go_enter Tryd.func38, Tryd.ntmps38
      go_wp2
      go_ret
      exact ⟨RetB.f (fun h => by have := h.1; have := h.2; omega), rfl⟩

end Go.Proofs.YtbcfmehcghkpiaaDoor
