import Derived.Test.YtdlaekjofgbjcaaGreatDoorBaseZ
/-
 What it is to be right: plain propositions; the contracts of the small readers of spec and impl. Mine, by template (wip/gen.py).
-/
namespace Go.Proofs.YtdlaekjofgbjcaaGreatDoor
open Go.RowKit
def In (x a b : Int) : Prop := a ≤ x ∧ x ≤ b
def chr (s : ByteArray) (i : Nat) : Nat := (s.data.toList.getD i 0).toNat
def NameOk (s : ByteArray) : Prop := (∀ i, i < s.size → 97 ≤ chr s i ∧ chr s i ≤ 122) ∧ 1 ≤ s.size ∧ s.size ≤ 20
def ListOk (n : Nat) (V : Nat → Int) (lim : Int) : Prop := (∀ i, i < n → 0 ≤ V i ∧ V i ≤ lim - 1 ∧ (0 < i → V (i - 1) < V i)) ∧ 1 ≤ n ∧ n ≤ 20
def OpenP (t : Int) : Prop := t = 2 ∨ t = 3
def Meet (n m : Nat) (V U : Nat → Int) : Prop := ∃ i j, i < n ∧ j < m ∧ V i = U j
def sV (x : Ord) (i : Nat) : Int := x.secs.getD i 0
def OrdOk (x : Ord) (lim : Int) : Prop := NameOk x.holder ∧ In x.kind 1 2 ∧ ListOk x.secs.length (sV x) lim ∧ In x.state 1 5
def RetB (e : Ending) (p : Prop) : Prop := ∃ r : Bool, e = .returned (.bool r) ∧ (r = true ↔ p)
theorem RetB.t {p : Prop} (h : p) : RetB (.returned (.bool true)) p := ⟨true, rfl, ⟨fun _ => h, fun _ => rfl⟩⟩
theorem RetB.f {p : Prop} (h : ¬ p) : RetB (.returned (.bool false)) p := ⟨false, rfl, ⟨fun e => (by cases e), fun q => absurd q h⟩⟩
theorem RetB.cases {e : Ending} {p : Prop} (h : RetB e p) : (e = .returned (.bool true) ∧ p) ∨ (e = .returned (.bool false) ∧ ¬ p) := by
 obtain ⟨r, e, h⟩ := h; cases r with
 | true => exact Or.inl ⟨e, h.1 rfl⟩
 | false => exact Or.inr ⟨e, fun q => by have := h.2 q; cases this⟩
theorem chr_eq (s : ByteArray) (i : Nat) (h : i < s.size) : (s[i].toNat : Int) = (chr s i : Int) := by
 have : s.data.toList.getD i 0 = s[i] := by
  have h' : i < s.data.toList.length := by simpa using h
  rw [List.getD_eq_getElem?_getD, List.getElem?_eq_getElem h']; rfl
 unfold chr; rw [this]
set_option maxHeartbeats 400000 in
theorem l1in_any (x a b : Int) (w : World) :
  Calls Tryz.prog 37 #[.int .i64 x, .int .i64 a, .int .i64 b] w fun e w' => RetB e (In x a b) ∧ w' = w := by
 by_cases h : a ≤ x
 ·
  by_cases h2 : x ≤ b
  ·
   go_enter Tryz.func37, Tryz.ntmps37
   go_wp2; go_ret; exact ⟨RetB.t ⟨h, h2⟩, rfl⟩
  ·
   go_enter Tryz.func37, Tryz.ntmps37
   go_wp2; go_ret; exact ⟨RetB.f (fun q => by have := q.1; have := q.2; omega), rfl⟩
 ·
  go_enter Tryz.func37, Tryz.ntmps37
  go_wp2; go_ret; exact ⟨RetB.f (fun q => by have := q.1; have := q.2; omega), rfl⟩
set_option maxHeartbeats 400000 in
theorem l1name_any (s : ByteArray) (w : World) (hs : s.size ≤ 4294967296) :
  Calls Tryz.prog 39 #[.string s] w fun e w' => RetB e (NameOk s) ∧ w' = w := by
 go_enter Tryz.func39, Tryz.ntmps39
 go_wp2
 go_loop [3] (fun i => ∃ k : Nat, k ≤ s.size ∧ i = .int .i64 k ∧ ∀ j, j < k → 97 ≤ chr s j ∧ chr s j ≤ 122) (fun i => s.size - (intOf i).toNat)
 case atStart => exact ⟨0, Nat.zero_le _, rfl, fun j hj => absurd hj (by omega)⟩
 case round =>
  obtain ⟨k, hk, rfl, hall⟩ := hrel; have HA : Hid (∀ j, j < k → 97 ≤ chr s j ∧ chr s j ≤ 122) := hall; clear hall
  by_cases hlt : k < s.size
  ·
   have hc := chr_eq s k hlt; have HC : Hid ((s[k].toNat : Int) = (chr s k : Int)) := hc; clear hc
   by_cases h1 : (s[k].toNat : Int) < 97
   ·
    go_wp2; go_ret; refine ⟨RetB.f ?_, rfl⟩; intro h; have := h.1 k hlt; have := HC.out; omega
   ·
    by_cases h2 : 122 < (s[k].toNat : Int)
    ·
     go_wp2; go_ret; refine ⟨RetB.f ?_, rfl⟩; intro h; have := h.1 k hlt; have := HC.out; omega
    ·
     go_wp2
     go_round
     case rel =>
      refine ⟨k + 1, by omega, by go_num, fun j hj => ?_⟩
      by_cases e : j = k
      · subst e; have := HC.out; omega
      · exact HA.out j (by omega)
     case measure => simp [intOf]; omega
  ·
   obtain rfl : k = s.size := by omega
   by_cases h1 : 1 ≤ s.size
   ·
    by_cases h2 : s.size ≤ 20
    ·
     have t2 : decide ((s.size : Int) ≤ 20) = true := by simp; omega
     go_wp2; go_ret; exact ⟨RetB.t ⟨HA.out, h1, h2⟩, rfl⟩
    ·
     have t2 : decide ((s.size : Int) ≤ 20) = false := by simp; omega
     go_wp2; go_ret; exact ⟨RetB.f (fun h => by have := h.2.2; omega), rfl⟩
   ·
    go_wp2; go_ret; exact ⟨RetB.f (fun h => by have := h.2.1; omega), rfl⟩
set_option maxHeartbeats 400000 in
theorem nameOk_any (s : ByteArray) (w : World) (hs : s.size ≤ 4294967296) :
  Calls Tryz.prog 66 #[.string s] w fun e w' => RetB e (NameOk s) ∧ w' = w := by
 by_cases h1 : 1 ≤ s.size
 ·
  by_cases h2 : s.size ≤ 20
  ·
   have t1 : decide ((s.size : Int) < 1) = false := by simp; omega
   have t2 : decide (20 < (s.size : Int)) = false := by simp; omega
   go_enter Tryz.func66, Tryz.ntmps66
   go_wp2; clear t1 t2
   go_loop [14] (fun i => ∃ k : Nat, k ≤ s.size ∧ i = .int .i64 k ∧ ∀ j, j < k → 97 ≤ chr s j ∧ chr s j ≤ 122) (fun i => s.size - (intOf i).toNat)
   case atStart => exact ⟨0, Nat.zero_le _, rfl, fun j hj => absurd hj (by omega)⟩
   case round =>
    obtain ⟨k, hk, rfl, hall⟩ := hrel; have HA : Hid (∀ j, j < k → 97 ≤ chr s j ∧ chr s j ≤ 122) := hall; clear hall
    by_cases hlt : k < s.size
    ·
     have hc := chr_eq s k hlt; have HC : Hid ((s[k].toNat : Int) = (chr s k : Int)) := hc; clear hc
     by_cases g1 : (s[k].toNat : Int) < 97
     ·
      go_wp2; go_ret; refine ⟨RetB.f ?_, rfl⟩; intro h; have := h.1 k hlt; have := HC.out; omega
     ·
      by_cases g2 : 122 < (s[k].toNat : Int)
      ·
       go_wp2; go_ret; refine ⟨RetB.f ?_, rfl⟩; intro h; have := h.1 k hlt; have := HC.out; omega
      ·
       go_wp2
       go_round
       case rel =>
        refine ⟨k + 1, by omega, by go_num, fun j hj => ?_⟩
        by_cases e : j = k
        · subst e; have := HC.out; omega
        · exact HA.out j (by omega)
       case measure => simp [intOf]; omega
    ·
     obtain rfl : k = s.size := by omega
     go_wp2; go_ret; exact ⟨RetB.t ⟨HA.out, h1, h2⟩, rfl⟩
  ·
   go_enter Tryz.func66, Tryz.ntmps66
   go_wp2; go_ret; exact ⟨RetB.f (fun h => by have := h.2.2; omega), rfl⟩
 ·
  go_enter Tryz.func66, Tryz.ntmps66
  go_wp2; go_ret; exact ⟨RetB.f (fun h => by have := h.2.1; omega), rfl⟩
set_option maxHeartbeats 400000 in
theorem kindOk_any (x : Int) (w : World) :
  Calls Tryz.prog 67 #[.int .i64 x] w fun e w' => RetB e (In x 1 2) ∧ w' = w := by
 by_cases h1 : x = 1
 ·
  subst h1
  go_enter Tryz.func67, Tryz.ntmps67
  go_wp2; go_ret; exact ⟨RetB.t ⟨by omega, by omega⟩, rfl⟩
 ·
  by_cases h2 : x = 2
  ·
   subst h2
   go_enter Tryz.func67, Tryz.ntmps67
   go_wp2; go_ret; exact ⟨RetB.t ⟨by omega, by omega⟩, rfl⟩
  ·
   have t1 : (x == 1) = false := by simpa using h1
   have t2 : (x == 2) = false := by simpa using h2
   go_enter Tryz.func67, Tryz.ntmps67
   go_wp2; go_ret; exact ⟨RetB.f (fun h => by have := h.1; have := h.2; omega), rfl⟩
set_option maxHeartbeats 400000 in
theorem sectionCountOk_any (x : Int) (w : World) :
  Calls Tryz.prog 24 #[.int .i64 x] w fun e w' => RetB e (In x 1 60) ∧ w' = w := by
 by_cases h : 1 ≤ x
 ·
  by_cases h2 : x ≤ 60
  ·
   go_enter Tryz.func24, Tryz.ntmps24
   go_wp2; go_ret; exact ⟨RetB.t ⟨h, h2⟩, rfl⟩
  ·
   go_enter Tryz.func24, Tryz.ntmps24
   go_wp2; go_ret; exact ⟨RetB.f (fun q => by have := q.1; have := q.2; omega), rfl⟩
 ·
  go_enter Tryz.func24, Tryz.ntmps24
  go_wp2; go_ret; exact ⟨RetB.f (fun q => by have := q.1; have := q.2; omega), rfl⟩
set_option maxHeartbeats 400000 in
theorem l1open_any (a b c : Value) (t : Int) (w : World) :
  Calls Tryz.prog 85 #[.agg #[a, b, c, .int .i64 t]] w fun e w' => RetB e (OpenP t) ∧ Below w.heap.size w w' := by
 by_cases h1 : t = 2
 ·
  subst h1
  go_enter Tryz.func85, Tryz.ntmps85
  go_wp2; go_ret; exact ⟨RetB.t (Or.inl rfl), below1 _ _⟩
 ·
  have t1 : (t == 2) = false := by simpa using h1
  by_cases h2 : t = 3
  ·
   subst h2
   go_enter Tryz.func85, Tryz.ntmps85
   go_wp2; go_ret; exact ⟨RetB.t (Or.inr rfl), below1 _ _⟩
  ·
   have t2 : (t == 3) = false := by simpa using h2
   go_enter Tryz.func85, Tryz.ntmps85
   go_wp2; go_ret; exact ⟨RetB.f (fun h => by rcases h with h | h; exact h1 h; exact h2 h), below1 _ _⟩
set_option maxHeartbeats 400000 in
theorem isOpen_any (a b c : Value) (t : Int) (w : World) :
  Calls Tryz.prog 69 #[.agg #[a, b, c, .int .i64 t]] w fun e w' => RetB e (OpenP t) ∧ Below w.heap.size w w' := by
 by_cases h1 : t = 2
 ·
  subst h1
  go_enter Tryz.func69, Tryz.ntmps69
  go_wp2; go_ret; exact ⟨RetB.t (Or.inl rfl), below1 _ _⟩
 ·
  have t1 : (t == 2) = false := by simpa using h1
  by_cases h2 : t = 3
  ·
   subst h2
   go_enter Tryz.func69, Tryz.ntmps69
   go_wp2; go_ret; exact ⟨RetB.t (Or.inr rfl), below1 _ _⟩
  ·
   have t2 : (t == 3) = false := by simpa using h2
   go_enter Tryz.func69, Tryz.ntmps69
   go_wp2; go_ret; exact ⟨RetB.f (fun h => by rcases h with h | h; exact h1 h; exact h2 h), below1 _ _⟩
end Go.Proofs.YtdlaekjofgbjcaaGreatDoor
/-
 The contracts of spec.l1list, spec.l1meet, impl.sectionListOk, impl.sizesOk, impl.orderOk. Mine, by template (wip/gen.py).
-/
namespace Go.Proofs.YtdlaekjofgbjcaaGreatDoor
open Go.RowKit
def Asc (k : Nat) (V : Nat → Int) (lim : Int) : Prop := ∀ i, i < k → 0 ≤ V i ∧ V i ≤ lim - 1 ∧ (0 < i → V (i - 1) < V i)
theorem Asc.step {k : Nat} {V : Nat → Int} {lim : Int} (h : Asc k V lim) (h1 : 0 ≤ V k) (h2 : V k ≤ lim - 1) (h3 : 0 < k → V (k - 1) < V k) : Asc (k + 1) V lim := fun i hi => by
 by_cases e : i = k
 · subst e; exact ⟨h1, h2, h3⟩
 · exact h i (by omega)
set_option maxHeartbeats 400000 in
theorem l1list_any (ad : Option Addr) (c n : Nat) (V : Nat → Int) (lim : Int) (w : World) (hn : n ≤ 4294967296) (hl : -9223372036854775807 ≤ lim) (hl2 : lim ≤ 9223372036854775807) (G : Cells w ad n (fun i => .int .i64 (V i))) :
  Calls Tryz.prog 40 #[.slice ad n c, .int .i64 lim] w fun e w' => RetB e (ListOk n V lim) ∧ w' = w := by
 obtain ⟨b, o, hd, g⟩ := G
 go_enter Tryz.func40, Tryz.ntmps40
 go_wp2
 go_loop [9] (fun i => ∃ k : Nat, k ≤ n ∧ i = .int .i64 k ∧ Asc k V lim) (fun i => n - (intOf i).toNat)
 case atStart => exact ⟨0, Nat.zero_le _, rfl, fun j hj => absurd hj (by omega)⟩
 case round =>
  obtain ⟨k, hk, rfl, hall⟩ := hrel; have HA : Hid (Asc k V lim) := hall; clear hall
  by_cases hlt : k < n
  ·
   obtain rfl := hd (by omega); have e1 := g k hlt; have e0 : 0 < k → w.cell? ⟨b, o + (k - 1), none⟩ = some (.int .i64 (V (k - 1))) := fun hp => g (k - 1) (by omega); clear g hd
   go_wp2_with fail
   refine (l1in_any (V k) 0 (lim - 1) _).mono ?_; rintro e w' ⟨hr, rfl⟩; rcases hr.cases with ⟨rfl, hp⟩ | ⟨rfl, hp⟩
   ·
    by_cases hk0 : 0 < k
    ·
     have e2 := e0 hk0; have tk : ((k : Int) - 1).toNat = k - 1 := by omega
     have k1 : (0 : Int) ≤ (k : Int) - 1 := by omega
     have k2 : (k : Int) - 1 < (n : Int) := by omega
     have HP : Hid (In (V k) 0 (lim - 1)) := hp; clear e0 hp hr
     by_cases h3 : V k ≤ V (k - 1)
     ·
      go_wp2; go_ret; exact ⟨RetB.f (fun q => by have := (q.1 k hlt).2.2 hk0; omega), rfl⟩
     ·
      go_wp2
      go_round
      case rel => exact ⟨k + 1, by omega, by go_num, HA.out.step HP.out.1 HP.out.2 (fun _ => by omega)⟩
      case measure => simp [intOf]; omega
    ·
     have HP : Hid (In (V k) 0 (lim - 1)) := hp; clear e0 hp hr; obtain rfl : k = 0 := by omega
     go_wp2
     go_round
     case rel => exact ⟨0 + 1, by omega, by go_num, HA.out.step HP.out.1 HP.out.2 (fun h => absurd h (by omega))⟩
     case measure => simp [intOf]; omega
   ·
    have HP : Hid (¬ In (V k) 0 (lim - 1)) := hp; clear e0 hp hr; go_wp2; go_ret; exact ⟨RetB.f (fun q => HP.out ⟨(q.1 k hlt).1, (q.1 k hlt).2.1⟩), rfl⟩
  ·
   obtain rfl : k = n := by omega
   clear g hd
   go_wp2_with fail
   refine (l1in_any k 1 20 _).mono ?_; rintro e w' ⟨hr, rfl⟩; rcases hr.cases with ⟨rfl, hp⟩ | ⟨rfl, hp⟩
   ·
    have HP : Hid (In (k : Int) 1 20) := hp; clear hp hr; go_wp2; go_ret; exact ⟨RetB.t ⟨HA.out, by have := HP.out.1; omega, by have := HP.out.2; omega⟩, rfl⟩
   ·
    have HP : Hid (¬ In (k : Int) 1 20) := hp; clear hp hr; go_wp2; go_ret; exact ⟨RetB.f (fun q => HP.out ⟨by have := q.2.1; omega, by have := q.2.2; omega⟩), rfl⟩
set_option maxHeartbeats 400000 in
theorem sectionListOk_any (ad : Option Addr) (c n : Nat) (V : Nat → Int) (lim : Int) (w : World) (hn : n ≤ 4294967296) (G : Cells w ad n (fun i => .int .i64 (V i))) :
  Calls Tryz.prog 68 #[.slice ad n c, .int .i64 lim] w fun e w' => RetB e (ListOk n V lim) ∧ w' = w := by
 obtain ⟨b, o, hd, g⟩ := G
 by_cases h1 : 1 ≤ n
 ·
  by_cases h2 : n ≤ 20
  ·
   have t1 : decide ((n : Int) < 1) = false := by simp; omega
   have t2 : decide (20 < (n : Int)) = false := by simp; omega
   go_enter Tryz.func68, Tryz.ntmps68
   go_wp2; clear t1 t2
   go_loop [5, 18] (fun l i => ∃ (k : Nat) (last : Int), k ≤ n ∧ i = .int .i64 k ∧ l = .int .i64 last ∧ (k = 0 → last = -1) ∧ (0 < k → last = V (k - 1)) ∧ Asc k V lim) (fun _ i => n - (intOf i).toNat)
   case atStart => exact ⟨0, -1, Nat.zero_le _, rfl, rfl, fun _ => rfl, fun h => absurd h (by omega), fun j hj => absurd hj (by omega)⟩
   case round =>
    obtain ⟨k, last, hk, rfl, rfl, l0, l1, hall⟩ := hrel; have HA : Hid (Asc k V lim ∧ (k = 0 → last = -1) ∧ (0 < k → last = V (k - 1))) := ⟨hall, l0, l1⟩; clear hall l0 l1
    by_cases hlt : k < n
    ·
     obtain rfl := hd (by omega); have e1 := g k hlt; clear g hd
     by_cases g1 : V k ≤ last
     ·
      go_wp2; go_ret; refine ⟨RetB.f (fun q => ?_), rfl⟩; have q1 := q.1 k hlt; obtain ⟨_, u1, u2⟩ := HA.out
      by_cases k0 : k = 0
      · have := u1 k0; omega
      · have := u2 (by omega); have := q1.2.2 (by omega); omega
     ·
      by_cases g2 : lim ≤ V k
      ·
       go_wp2; go_ret; exact ⟨RetB.f (fun q => by have := (q.1 k hlt).2.1; omega), rfl⟩
      ·
       go_wp2
       go_round
       case rel =>
        refine ⟨k + 1, V k, by omega, by go_num, rfl, fun h => absurd h (by omega), fun _ => rfl, ?_⟩; obtain ⟨u0, u1, u2⟩ := HA.out; refine u0.step ?_ (by omega) (fun hp => by have := u2 hp; omega)
        by_cases k0 : k = 0
        · have := u1 k0; omega
        · have := u2 (by omega); have := (u0 (k - 1) (by omega)).1; omega
       case measure => simp [intOf]; omega
    ·
     obtain rfl : k = n := by omega
     clear g hd; go_wp2; go_ret; exact ⟨RetB.t ⟨HA.out.1, h1, h2⟩, rfl⟩
  ·
   clear g hd
   go_enter Tryz.func68, Tryz.ntmps68
   go_wp2; go_ret; exact ⟨RetB.f (fun q => by have := q.2.2; omega), rfl⟩
 ·
  clear g hd
  go_enter Tryz.func68, Tryz.ntmps68
  go_wp2; go_ret; exact ⟨RetB.f (fun q => by have := q.2.1; omega), rfl⟩
set_option maxHeartbeats 1000000 in
theorem l1meet_any (a1 a2 : Option Addr) (c1 c2 n m : Nat) (V U : Nat → Int) (w : World) (hn : n ≤ 4294967296) (hm : m ≤ 4294967296) (G1 : Cells w a1 n (fun i => .int .i64 (V i))) (G2 : Cells w a2 m (fun i => .int .i64 (U i))) :
  Calls Tryz.prog 86 #[.slice a1 n c1, .slice a2 m c2] w fun e w' => RetB e (Meet n m V U) ∧ w' = w := by
 obtain ⟨b1, o1, d1, g1⟩ := G1; obtain ⟨b2, o2, d2, g2⟩ := G2
 go_enter Tryz.func86, Tryz.ntmps86
 go_wp2
 go_loop [11] (fun i => ∃ k : Nat, k ≤ n ∧ i = .int .i64 k ∧ ∀ i j, i < k → j < m → V i ≠ U j) (fun i => n - (intOf i).toNat)
 case atStart => exact ⟨0, Nat.zero_le _, rfl, fun i j hi => absurd hi (by omega)⟩
 case round =>
  obtain ⟨k, hk, rfl, hall⟩ := hrel; have HA : Hid (∀ i j, i < k → j < m → V i ≠ U j) := hall; clear hall
  by_cases hlt : k < n
  ·
   obtain rfl := d1 (by omega); have e1 := g1 k hlt; clear g1 d1; go_wp2; clear e1
   go_loop [17] (fun i => ∃ l : Nat, l ≤ m ∧ i = .int .i64 l ∧ ∀ j, j < l → V k ≠ U j) (fun i => m - (intOf i).toNat)
   case atStart => exact ⟨0, Nat.zero_le _, rfl, fun j hj => absurd hj (by omega)⟩
   case round =>
    obtain ⟨l, hl, rfl, hall⟩ := hrel; have HI : Hid (∀ j, j < l → V k ≠ U j) := hall; clear hall
    by_cases hlm : l < m
    ·
     obtain rfl := d2 (by omega); have e2 := g2 l hlm; clear g2 d2
     by_cases heq : V k = U l
     ·
      have te : (V k == U l) = true := by simpa using heq
      have HE : Hid (V k = U l) := heq; clear heq; go_wp2; go_ret; exact ⟨RetB.t ⟨k, l, hlt, hlm, HE.out⟩, rfl⟩
     ·
      have te : (V k == U l) = false := by simpa using heq
      have HE : Hid (¬ V k = U l) := heq; clear heq; go_wp2
      go_round
      case rel =>
       refine ⟨l + 1, by omega, by go_num, fun j hj => ?_⟩
       by_cases e : j = l
       · subst e; exact HE.out
       · exact HI.out j (by omega)
      case measure => simp [intOf]; omega
    ·
     obtain rfl : l = m := by omega
     clear g2 d2; go_wp2
     go_round
     case rel =>
      refine ⟨k + 1, by omega, by go_num, fun i j hi hj => ?_⟩
      by_cases e : i = k
      · subst e; exact HI.out j hj
      · exact HA.out i j (by omega) hj
     case measure => simp [intOf]; omega
  ·
   obtain rfl : k = n := by omega
   clear g1 d1 g2 d2; go_wp2; go_ret; exact ⟨RetB.f (fun ⟨i, j, hi, hj, e⟩ => HA.out i j hi hj e), rfl⟩
def SizesOk (B : Bk) : Prop := In B.n 1 60 ∧ (B.locked.length : Int) = B.n ∧ (B.occ.length : Int) = B.n ∧ B.orders.length ≤ 200
set_option maxHeartbeats 1000000 in
theorem sizesOk_any (B : Bk) (ao al ac : Option Addr) (co cl cc : Nat) (w : World) (ho : B.orders.length ≤ 4294967296) :
  Calls Tryz.prog 30 #[.agg #[.int .i64 B.n, .slice ao B.orders.length co, .slice al B.locked.length cl, .slice ac B.occ.length cc]] w fun e w' => RetB e (SizesOk B) ∧ Below w.heap.size w w' := by
 go_enter Tryz.func30, Tryz.ntmps30
 go_wp2_with fail
 refine (sectionCountOk_any B.n _).mono ?_; rintro e w' ⟨hr, rfl⟩; rcases hr.cases with ⟨rfl, hp⟩ | ⟨rfl, hp⟩
 ·
  have HP : Hid (In B.n 1 60) := hp; clear hp hr
  by_cases h1 : (B.locked.length : Int) = B.n
  ·
   have t1 : ((B.locked.length : Int) == B.n) = true := by simpa using h1
   have H1 : Hid ((B.locked.length : Int) = B.n) := h1; clear h1
   by_cases h2 : (B.occ.length : Int) = B.n
   ·
    have t2 : ((B.occ.length : Int) == B.n) = true := by simpa using h2
    have H2 : Hid ((B.occ.length : Int) = B.n) := h2; clear h2
    by_cases h3 : B.orders.length ≤ 200
    ·
     have t3 : decide ((B.orders.length : Int) ≤ 200) = true := by simp; omega
     go_wp2; go_ret; exact ⟨RetB.t ⟨HP.out, H1.out, H2.out, h3⟩, below1 _ _⟩
    ·
     have t3 : decide ((B.orders.length : Int) ≤ 200) = false := by simp; omega
     go_wp2; go_ret; exact ⟨RetB.f (fun q => by have := q.2.2.2; omega), below1 _ _⟩
   ·
    have t2 : ((B.occ.length : Int) == B.n) = false := by simpa using h2
    have H2 : Hid (¬ (B.occ.length : Int) = B.n) := h2; clear h2; go_wp2; go_ret; exact ⟨RetB.f (fun q => H2.out q.2.2.1), below1 _ _⟩
  ·
   have t1 : ((B.locked.length : Int) == B.n) = false := by simpa using h1
   have H1 : Hid (¬ (B.locked.length : Int) = B.n) := h1; clear h1; go_wp2; go_ret; exact ⟨RetB.f (fun q => H1.out q.2.1), below1 _ _⟩
 ·
  have HP : Hid (¬ In B.n 1 60) := hp; clear hp hr; go_wp2; go_ret; exact ⟨RetB.f (fun q => HP.out q.1), below1 _ _⟩
set_option maxHeartbeats 1000000 in
theorem orderOk_any (x : Ord) (ad : Option Addr) (c : Nat) (lim : Int) (w : World) (hs : x.holder.size ≤ 4294967296) (hn : x.secs.length ≤ 4294967296) (G : Cells w ad x.secs.length (iV x.secs)) :
  Calls Tryz.prog 31 #[.agg #[.string x.holder, .int .i64 x.kind, .slice ad x.secs.length c, .int .i64 x.state], .int .i64 lim] w fun e w' => RetB e (OrdOk x lim) ∧ Below w.heap.size w w' := by
 have B1 := below1 w (.cells #[.string x.holder, .int .i64 x.kind, .slice ad x.secs.length c, .int .i64 x.state] 41); have G1 : Cells (w.alloc (.cells #[.string x.holder, .int .i64 x.kind, .slice ad x.secs.length c, .int .i64 x.state] 41)) ad x.secs.length (fun i => .int .i64 (sV x i)) := G.below B1
 go_enter Tryz.func31, Tryz.ntmps31
 go_wp2_with fail
 refine (nameOk_any x.holder _ hs).mono ?_; rintro e w' ⟨hr, rfl⟩; rcases hr.cases with ⟨rfl, hp⟩ | ⟨rfl, hp⟩
 ·
  have H1 : Hid (NameOk x.holder) := hp; clear hp hr
  go_wp2_with fail
  refine (kindOk_any x.kind _).mono ?_; rintro e w' ⟨hr, rfl⟩; rcases hr.cases with ⟨rfl, hp⟩ | ⟨rfl, hp⟩
  ·
   have H2 : Hid (In x.kind 1 2) := hp; clear hp hr
   go_wp2_with fail
   refine (sectionListOk_any ad c x.secs.length (sV x) lim _ hn G1).mono ?_; rintro e w' ⟨hr, rfl⟩; rcases hr.cases with ⟨rfl, hp⟩ | ⟨rfl, hp⟩
   ·
    have H3 : Hid (ListOk x.secs.length (sV x) lim) := hp; clear hp hr
    by_cases h4 : 1 ≤ x.state
    ·
     have t4 : decide (1 ≤ x.state) = true := by simpa using h4
     by_cases h5 : x.state ≤ 5
     ·
      have t5 : decide (x.state ≤ 5) = true := by simpa using h5
      go_wp2; go_ret; exact ⟨RetB.t ⟨H1.out, H2.out, H3.out, h4, h5⟩, B1⟩
     ·
      have t5 : decide (x.state ≤ 5) = false := by simpa using h5
      go_wp2; go_ret; exact ⟨RetB.f (fun q => by have := q.2.2.2.2; omega), B1⟩
    ·
     have t4 : decide (1 ≤ x.state) = false := by simpa using h4
     go_wp2; go_ret; exact ⟨RetB.f (fun q => by have := q.2.2.2.1; omega), B1⟩
   ·
    have H3 : Hid (¬ ListOk x.secs.length (sV x) lim) := hp; clear hp hr; go_wp2; go_ret; exact ⟨RetB.f (fun q => H3.out q.2.2.1), B1⟩
  ·
   have H2 : Hid (¬ In x.kind 1 2) := hp; clear hp hr; go_wp2; go_ret; exact ⟨RetB.f (fun q => H2.out q.2.1), B1⟩
 ·
  have H1 : Hid (¬ NameOk x.holder) := hp; clear hp hr; go_wp2; go_ret; exact ⟨RetB.f (fun q => H1.out q.1), B1⟩
end Go.Proofs.YtdlaekjofgbjcaaGreatDoor
