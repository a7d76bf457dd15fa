/-
 The contracts of spec.l3words, spec.Line. Mine, by program (wip/sline.py), by template (wip/gen.py).
-/
import Derived.Test.YtdlaekjofgbjcaaGreatDoorLineT
import Derived.Test.YtdlaekjofgbjcaaGreatDoorEvS
import Derived.Test.YtdlaekjofgbjcaaGreatDoorText2
import Derived.Deep.RegionHeld3
namespace Go.Proofs.YtdlaekjofgbjcaaGreatDoor
open Go.RowKit
theorem l3words_any (w : World) :
  Calls Tryz.prog 38 #[] w fun e w' => ∃ b, e = .returned (.slice (some ⟨b, 0, none⟩) 10 10) ∧ (∀ k : Int, In k 1 9 → w'.cell? ⟨b, k.toNat, none⟩ = some (.string (wordB k))) ∧ Below w.heap.size w w' := by
 go_enter Tryz.func38, Tryz.ntmps38
 go_wp2; go_ret; refine ⟨_, rfl, fun k hk => ?_, below1 _ _⟩
 rcases one_to_nine hk with rfl | rfl | rfl | rfl | rfl | rfl | rfl | rfl | rfl <;> simp [go_sem, wordB]
set_option maxRecDepth 20000 in
set_option maxHeartbeats 8000000 in
theorem specLine_any (ve : Value) (E : Ev) (w : World) (he1 : E.holder.size ≤ 1048576) (he2 : E.text.size ≤ 1048576) (he3 : E.secs.length ≤ 1048576) (GE : EvAt w ve E) :
  Calls Tryz.prog 14 #[ve] w fun e w' => RetLn e E ∧ Below w.heap.size w w' := by
 obtain ⟨ad, ca, rfl, KE⟩ := GE; obtain ⟨op, of_, holder, kind, secs, text⟩ := E; simp only at he1 he2 he3 KE ⊢; have B1 := below1 w (.cells #[.int .i64 op, .int .i64 of_, .string holder, .int .i64 kind, .slice ad secs.length ca, .string text] 32); have HC0 : Hid (Cells w ad secs.length (iV secs)) := KE; clear KE; have a32 : (ByteArray.mk #[32]).size = 1 := rfl
 go_enter Tryz.func14, Tryz.ntmps14
 go_wp2_with fail
 refine (l1in_any op 1 9 _).mono ?_; rintro e w' ⟨hr, hw'⟩; obtain rfl := hw'.symm; rcases hr.cases with ⟨rfl, hp⟩ | ⟨rfl, hp⟩
 case inr =>
  have HP : Hid (¬ In op 1 9) := hp; clear hp hr; go_wp2; go_ret; exact ⟨RetLn.no (fun q => HP.out (LineOk.in19 q)), B1⟩
 have HP : Hid (In op 1 9) := hp; have hop0 : 0 ≤ op := by have := hp.1; omega
 have hop1 : op < 10 := by have := hp.2; omega
 clear hp hr
 go_wp2_with fail
 refine (l3words_any _).mono ?_; rintro e w1 ⟨b, rfl, hwords, hb1⟩; have by1 : w1.heap[w.heap.size]? = some (.cells #[.int .i64 op, .int .i64 of_, .string holder, .int .i64 kind, .slice ad secs.length ca, .string text] 32 (0, 0)) := (hb1.block _ (by simp)).trans (Deep.blk_alloc_new _ _); have bw : Below w.heap.size w w1 := B1.trans (hb1.mono (by simp)); have HC : Hid (Cells w1 ad secs.length (iV secs) ∧ w1.heap[w.heap.size]? = some (.cells #[.int .i64 op, .int .i64 of_, .string holder, .int .i64 kind, .slice ad secs.length ca, .string text] 32 (0, 0))) := ⟨HC0.out.below bw, by1⟩; have z1 : w.heap.size < w1.heap.size := by have := hb1.size; simp at this; omega
 obtain ⟨e0, e1, e2, e3, e4, e5⟩ := ev_cells by1; clear hb1 by1 B1 HC0
 by_cases o1 : op = 1
 ·
  subst o1; have hwd : w1.cell? ⟨b, 1, none⟩ = some (.string ⟨#[119, 114, 105, 116, 101]⟩) := hwords 1 ⟨by omega, by omega⟩; clear hwords hop0 hop1
  go_wp2_with fail
  refine (l1name_any holder _ (by omega)).mono ?_; rintro e w' ⟨hr, hw'⟩; obtain rfl := hw'.symm; rcases hr.cases with ⟨rfl, hp⟩ | ⟨rfl, hp⟩
  ·
   have H1 : Hid (NameOk holder) := hp; clear hp hr
   go_wp2_with fail
   refine (l1in_any kind 1 2 _).mono ?_; rintro e w' ⟨hr, hw'⟩; obtain rfl := hw'.symm; rcases hr.cases with ⟨rfl, hp⟩ | ⟨rfl, hp⟩
   ·
    have H2 : Hid (In kind 1 2) := hp; clear hp hr
    go_wp2_with fail
    refine (l1list_any ad ca secs.length (fun i => secs.getD i 0) 60 _ (by omega) (by omega) (by omega) HC.out.1).mono ?_; rintro e w' ⟨hr, hw'⟩; obtain rfl := hw'.symm; rcases hr.cases with ⟨rfl, hp⟩ | ⟨rfl, hp⟩
    ·
     have H3 : Hid (ListOk secs.length (fun i => secs.getD i 0) 60) := hp; clear hp hr
     by_cases h : of_ = 0
     ·
      subst h
      by_cases h : text.size = 0
      ·
       have H5 : Hid (text.size = 0) := h; have t5 : text.toList.isEmpty = true := isE_t h; have hhs : holder.size ≤ 20 := H1.out.2.2; have hns : secs.length ≤ 20 := H3.out.2.2; clear h; rcases (show kind = 1 ∨ kind = 2 by have := H2.out; unfold In at this; omega) with rfl | rfl
       ·
        have hadd1 := fun W => run_string_add_sum (P := Tryz.prog) W ⟨#[32]⟩ holder (by omega); have hadd2 := fun W => run_string_add_sum (P := Tryz.prog) W (⟨#[32]⟩ ++ holder) ⟨#[32, 112, 97, 115, 115]⟩ (by rw [ByteArray.size_append]; have : (ByteArray.mk #[32, 112, 97, 115, 115]).size = 5 := rfl; omega); have hadd3 := fun W => run_string_add_sum (P := Tryz.prog) W ⟨#[119, 114, 105, 116, 101]⟩ (⟨#[32]⟩ ++ holder ++ ⟨#[32, 112, 97, 115, 115]⟩) (by rw [ByteArray.size_append, ByteArray.size_append]; have : (ByteArray.mk #[32, 112, 97, 115, 115]).size = 5 := rfl; have : (ByteArray.mk #[119, 114, 105, 116, 101]).size = 5 := rfl; omega); go_wp2; go_region; clear hadd1 hadd2 hadd3 hwd e0 e1 e2 e3 e5; go_wp2; clear e4
        go_loopw [4, 62] (fun t q wr => ∃ (k : Nat) (s : ByteArray), k ≤ secs.length ∧ q = .int .i64 k ∧ t = .string s ∧ bl s = baseL ⟨1, 0, holder, 1, secs, text⟩ ++ secT (eOrd ⟨1, 0, holder, 1, secs, text⟩) k ∧ s.size ≤ 100 + 4 * k ∧ Below w1.heap.size w1 wr) (fun _ i _ => secs.length - (intOf i).toNat)
        case atStart =>
         refine ⟨0, _, Nat.zero_le _, rfl, rfl, ?_, ?_, ?_⟩
         ·
          rw [bl_base, secT, List.append_nil]; rfl
         · rw [ByteArray.size_append, ByteArray.size_append, ByteArray.size_append]; have : (ByteArray.mk #[32, 112, 97, 115, 115]).size = 5 := rfl; have : (ByteArray.mk #[119, 114, 105, 116, 101]).size = 5 := rfl; omega
         · first | exact (Below.refl _ _).drew.alloc (Nat.le_refl _) _ | exact (below1 _ _).drew | exact ((below1 _ _).drew).drew
        case round =>
         obtain ⟨k, s, hk, rfl, rfl, hs1, hs2, hbr⟩ := hrel; have HS : Hid (bl s = baseL ⟨1, 0, holder, 1, secs, text⟩ ++ secT (eOrd ⟨1, 0, holder, 1, secs, text⟩) k) := hs1; clear hs1
         by_cases hlt : k < secs.length
         ·
          obtain ⟨b2, o2, d2, g2⟩ := HC.out.1.below hbr; obtain rfl := d2 (by omega); have hL : 0 ≤ secs.getD k 0 ∧ secs.getD k 0 ≤ 60 - 1 ∧ _ := H3.out.1 k hlt; obtain ⟨m, hm⟩ : ∃ m : Nat, secs.getD k 0 = (m : Int) := ⟨(secs.getD k 0).toNat, by omega⟩; have hm3 : m < 60 := by omega
          have e1 : wr.cell? ⟨b2, o2 + k, none⟩ = some (.int .i64 (m : Int)) := by rw [← hm]; exact g2 k hlt
          have HM : Hid (sV (eOrd ⟨1, 0, holder, 1, secs, text⟩) k = (m : Int)) := hm; clear g2 d2 hL hm
          go_wp2_with fail
          refine (l1decimal_any m _ (by omega)).mono ?_; rintro e w3 ⟨⟨d, rfl, hdd⟩, hb⟩; have HD : Hid (bl d = Lib.decDigits m) := hdd; have hds : d.size ≤ 3 := by rw [← bl_size, hdd]; exact dec_len m (by omega)
          clear hdd e1; have hb3 := below_trans hbr hbr.size hb; have hadd1 := fun W => run_string_add_sum (P := Tryz.prog) W ⟨#[32]⟩ d (by omega); have hadd2 := fun W => run_string_add_sum (P := Tryz.prog) W s (⟨#[32]⟩ ++ d) (by rw [ByteArray.size_append]; omega); clear hb; go_wp2; go_roundw
          case rel => exact ⟨k + 1, s ++ (⟨#[32]⟩ ++ d), by omega, by go_num, rfl, sec_step HS.out HM.out HD.out, by rw [ByteArray.size_append, ByteArray.size_append]; omega, hb3⟩
          case measure => simp [intOf]; omega
         ·
          obtain rfl : k = secs.length := by omega
          go_wp2; go_ret; exact ⟨RetLn.yes (Or.inl ⟨rfl, rfl, H1.out, (show In (1 : Int) 1 2 from ⟨by decide, by decide⟩), H3.out, H5.out⟩) (HS.out.trans (lineT_1 rfl).symm), below_trans bw bw.size hbr⟩
       ·
        have hadd1 := fun W => run_string_add_sum (P := Tryz.prog) W ⟨#[32]⟩ holder (by omega); have hadd2 := fun W => run_string_add_sum (P := Tryz.prog) W (⟨#[32]⟩ ++ holder) ⟨#[32, 119, 111, 114, 107]⟩ (by rw [ByteArray.size_append]; have : (ByteArray.mk #[32, 119, 111, 114, 107]).size = 5 := rfl; omega); have hadd3 := fun W => run_string_add_sum (P := Tryz.prog) W ⟨#[119, 114, 105, 116, 101]⟩ (⟨#[32]⟩ ++ holder ++ ⟨#[32, 119, 111, 114, 107]⟩) (by rw [ByteArray.size_append, ByteArray.size_append]; have : (ByteArray.mk #[32, 119, 111, 114, 107]).size = 5 := rfl; have : (ByteArray.mk #[119, 114, 105, 116, 101]).size = 5 := rfl; omega); go_wp2; go_region; clear hadd1 hadd2 hadd3 hwd e0 e1 e2 e3 e5; go_wp2; clear e4
        go_loopw [4, 62] (fun t q wr => ∃ (k : Nat) (s : ByteArray), k ≤ secs.length ∧ q = .int .i64 k ∧ t = .string s ∧ bl s = baseL ⟨1, 0, holder, 2, secs, text⟩ ++ secT (eOrd ⟨1, 0, holder, 2, secs, text⟩) k ∧ s.size ≤ 100 + 4 * k ∧ Below w1.heap.size w1 wr) (fun _ i _ => secs.length - (intOf i).toNat)
        case atStart =>
         refine ⟨0, _, Nat.zero_le _, rfl, rfl, ?_, ?_, ?_⟩
         ·
          rw [bl_base, secT, List.append_nil]; rfl
         · rw [ByteArray.size_append, ByteArray.size_append, ByteArray.size_append]; have : (ByteArray.mk #[32, 119, 111, 114, 107]).size = 5 := rfl; have : (ByteArray.mk #[119, 114, 105, 116, 101]).size = 5 := rfl; omega
         · first | exact (Below.refl _ _).drew.alloc (Nat.le_refl _) _ | exact (below1 _ _).drew | exact ((below1 _ _).drew).drew
        case round =>
         obtain ⟨k, s, hk, rfl, rfl, hs1, hs2, hbr⟩ := hrel; have HS : Hid (bl s = baseL ⟨1, 0, holder, 2, secs, text⟩ ++ secT (eOrd ⟨1, 0, holder, 2, secs, text⟩) k) := hs1; clear hs1
         by_cases hlt : k < secs.length
         ·
          obtain ⟨b2, o2, d2, g2⟩ := HC.out.1.below hbr; obtain rfl := d2 (by omega); have hL : 0 ≤ secs.getD k 0 ∧ secs.getD k 0 ≤ 60 - 1 ∧ _ := H3.out.1 k hlt; obtain ⟨m, hm⟩ : ∃ m : Nat, secs.getD k 0 = (m : Int) := ⟨(secs.getD k 0).toNat, by omega⟩; have hm3 : m < 60 := by omega
          have e1 : wr.cell? ⟨b2, o2 + k, none⟩ = some (.int .i64 (m : Int)) := by rw [← hm]; exact g2 k hlt
          have HM : Hid (sV (eOrd ⟨1, 0, holder, 2, secs, text⟩) k = (m : Int)) := hm; clear g2 d2 hL hm
          go_wp2_with fail
          refine (l1decimal_any m _ (by omega)).mono ?_; rintro e w3 ⟨⟨d, rfl, hdd⟩, hb⟩; have HD : Hid (bl d = Lib.decDigits m) := hdd; have hds : d.size ≤ 3 := by rw [← bl_size, hdd]; exact dec_len m (by omega)
          clear hdd e1; have hb3 := below_trans hbr hbr.size hb; have hadd1 := fun W => run_string_add_sum (P := Tryz.prog) W ⟨#[32]⟩ d (by omega); have hadd2 := fun W => run_string_add_sum (P := Tryz.prog) W s (⟨#[32]⟩ ++ d) (by rw [ByteArray.size_append]; omega); clear hb; go_wp2; go_roundw
          case rel => exact ⟨k + 1, s ++ (⟨#[32]⟩ ++ d), by omega, by go_num, rfl, sec_step HS.out HM.out HD.out, by rw [ByteArray.size_append, ByteArray.size_append]; omega, hb3⟩
          case measure => simp [intOf]; omega
         ·
          obtain rfl : k = secs.length := by omega
          go_wp2; go_ret; exact ⟨RetLn.yes (Or.inl ⟨rfl, rfl, H1.out, (show In (2 : Int) 1 2 from ⟨by decide, by decide⟩), H3.out, H5.out⟩) (HS.out.trans (lineT_1 rfl).symm), below_trans bw bw.size hbr⟩
      ·
       have t5 : text.toList.isEmpty = false := isE_f h; have H5 : Hid (¬ text.size = 0) := h; clear h; go_wp2; go_ret; exact ⟨RetLn.no (fun q => H5.out (LineOk.w q rfl).2.2.2.2.2), bw⟩
     ·
      have t4 : (of_ != 0) = true := by simpa using h
      have H4 : Hid (¬ of_ = 0) := h; clear h; go_wp2; go_ret; exact ⟨RetLn.no (fun q => H4.out (LineOk.w q rfl).2.1), bw⟩
    ·
     have H3 : Hid (¬ ListOk secs.length (fun i => secs.getD i 0) 60) := hp; clear hp hr; go_wp2; go_ret; exact ⟨RetLn.no (fun q => H3.out (LineOk.w q rfl).2.2.2.2.1), bw⟩
   ·
    have H2 : Hid (¬ In kind 1 2) := hp; clear hp hr; go_wp2; go_ret; exact ⟨RetLn.no (fun q => H2.out (LineOk.w q rfl).2.2.2.1), bw⟩
  ·
   have H1 : Hid (¬ NameOk holder) := hp; clear hp hr; go_wp2; go_ret; exact ⟨RetLn.no (fun q => H1.out (LineOk.w q rfl).2.2.1), bw⟩
 have hwd : w1.cell? ⟨b, op.toNat, none⟩ = some (.string (wordB op)) := hwords op HP.out; have hws : (wordB op).size ≤ 8 := wordB_size op; have t1 : (op == 1) = false := by simpa using o1
 have HN : Hid (¬ op = 1) := o1; clear hwords o1
 go_wp2_with fail
 refine (l1in_any of_ 0 199 _).mono ?_; rintro e w' ⟨hr, hw'⟩; obtain rfl := hw'.symm; rcases hr.cases with ⟨rfl, hp⟩ | ⟨rfl, hp⟩
 ·
  have H0 : Hid (In of_ 0 199) := hp; clear hp hr
  by_cases h : kind = 0
  ·
   by_cases hl : secs.length = 0
   ·
    subst h; have HL : Hid (secs.length = 0) := hl; have tl : ¬ (0 : Int) < (secs.length : Int) := by omega
    clear hl; obtain ⟨m, hm⟩ : ∃ m : Nat, of_ = (m : Int) := ⟨of_.toNat, by have := H0.out.1; omega⟩; subst hm; have hm2 : m ≤ 199 := by have := H0.out.2; omega
    go_wp2_with fail
    refine (l1decimal_any m _ (by omega)).mono ?_; rintro e w2 ⟨⟨d, rfl, hdd⟩, hb2⟩; have hds : d.size ≤ 3 := by rw [← bl_size, hdd]; exact dec_len m (by omega)
    have bw2 : Below w.heap.size w w2 := below_trans bw bw.size hb2; have by2 := (hb2.block _ z1).trans HC.out.2; clear e0 e1 e2 e3 e4 e5 bw hwd; obtain ⟨e0, e1, e2, e3, e4, e5⟩ := ev_cells by2; have HD : Hid (bl d = Lib.decDigits m) := hdd; clear hb2 by2 hdd; have hadd0 := fun W => run_string_add_sum (P := Tryz.prog) W ⟨#[32]⟩ d (by omega); have hadd1 := fun W => run_string_add_sum (P := Tryz.prog) W (wordB op) (⟨#[32]⟩ ++ d) (by rw [ByteArray.size_append]; omega); obtain ⟨s, hs⟩ : ∃ s, s = wordB op ++ (⟨#[32]⟩ ++ d) := ⟨_, rfl⟩; have hss : s.size ≤ 12 := by rw [hs, ByteArray.size_append, ByteArray.size_append]; omega
    have HS : Hid (bl s = ofL ⟨op, m, holder, 0, secs, text⟩) := by rw [hs]; exact bl_of HD.out
    rw [← hs] at hadd1; clear hs HD hws
    by_cases o3 : op = 3
    ·
     subst o3
     by_cases h : holder.size = 0
     ·
      have th : holder.toList.isEmpty = true := isE_t h; have HH : Hid (holder.size = 0) := h; clear h; go_wp2; go_ret; exact ⟨RetLn.no (fun q => by have := ((LineOk.n q HN.out).2.2.2.2.1 (Or.inl rfl)).2.1; have := HH.out; simp only at *; omega), bw2⟩
     ·
      have th : holder.toList.isEmpty = false := isE_f h; clear h
      go_wp2_with fail
      refine (l1name_any holder _ (by omega)).mono ?_; rintro e w' ⟨hr, hw'⟩; obtain rfl := hw'.symm; rcases hr.cases with ⟨rfl, hp⟩ | ⟨rfl, hp⟩
      ·
       have HH : Hid (NameOk holder) := hp; have hhs : holder.size ≤ 20 := hp.2.2; clear hp hr
       by_cases h : text.size = 0
       ·
        have t5 : text.toList.isEmpty = true := isE_t h; clear h
        by_cases h : text.size ≤ 200
        ·
         have t6 : ¬ (200 : Int) < (text.size : Int) := by omega
         have H6 : Hid (text.size ≤ 200) := h; clear h; have hadd3 := fun W => run_string_add_sum (P := Tryz.prog) W s (⟨#[32]⟩ ++ holder) (by rw [ByteArray.size_append]; omega); have hadd2 := fun W => run_string_add_sum (P := Tryz.prog) W ⟨#[32]⟩ holder (by omega); go_wp2; clear hadd2 hadd3
         go_loop [8] (fun q => ∃ (k : Nat), k ≤ text.size ∧ q = .int .i64 k ∧ ∀ j, j < k → chr text j ≠ 10) (fun i => text.size - (intOf i).toNat)
         case atStart => exact ⟨0, Nat.zero_le _, rfl, fun j hj => absurd hj (by omega)⟩
         case round =>
          obtain ⟨k, hk, rfl, hn⟩ := hrel; have HK : Hid (∀ j, j < k → chr text j ≠ 10) := hn; clear hn
          by_cases hlt : k < text.size
          ·
           have hc := chr_eq text k hlt
           by_cases hx : chr text k = 10
           ·
            have tx : (text[k].toNat : Int) = 10 := by rw [hc, hx]; rfl
            have HX : Hid (¬ NoNl text) := fun q => q k hlt hx; clear hc hx; go_wp2; go_ret; exact ⟨RetLn.no (fun q => HX.out (LineOk.n q HN.out).2.2.2.2.2.2.2.2), bw2⟩
           ·
            have tx : ((text[k].toNat : Int) == 10) = false := by rw [hc]; simp; omega
            have HX : Hid (chr text k ≠ 10) := hx; clear hc hx; go_wp2
            go_round
            case rel => exact ⟨k + 1, by omega, by go_num, fun j hj => by
             by_cases e : j = k
             · subst e; exact HX.out
             · exact HK.out j (by omega)⟩
            case measure => simp [intOf]; omega
          ·
           obtain rfl : k = text.size := by omega
           have hadd5 := fun W => run_string_add_sum (P := Tryz.prog) W ⟨#[58, 32]⟩ text (by have : (ByteArray.mk #[58, 32]).size = 2 := rfl; omega); have hadd6 := fun W => run_string_add_sum (P := Tryz.prog) W (s ++ (⟨#[32]⟩ ++ holder)) (⟨#[58, 32]⟩ ++ text) (by rw [ByteArray.size_append, ByteArray.size_append, ByteArray.size_append]; have : (ByteArray.mk #[58, 32]).size = 2 := rfl; omega); go_wp2; go_ret; refine ⟨RetLn.yes (Or.inr ⟨(show In (3 : Int) 2 9 from ⟨by decide, by decide⟩), H0.out, rfl, HL.out, fun _ => HH.out, fun h => absurd (Or.inl rfl) h, fun h => absurd rfl h, H6.out, HK.out⟩) ?_, bw2⟩; rw [bl_colon, bl_blank, HS.out, lineT_3 rfl]
        ·
         have t6 : (200 : Int) < (text.size : Int) := by omega
         have H6 : Hid (¬ text.size ≤ 200) := h; clear h; go_wp2; go_ret; exact ⟨RetLn.no (fun q => H6.out (LineOk.n q HN.out).2.2.2.2.2.2.2.1), bw2⟩
       ·
        have t5 : text.toList.isEmpty = false := isE_f h; clear h
        by_cases h : text.size ≤ 200
        ·
         have t6 : ¬ (200 : Int) < (text.size : Int) := by omega
         have H6 : Hid (text.size ≤ 200) := h; clear h; have hadd3 := fun W => run_string_add_sum (P := Tryz.prog) W s (⟨#[32]⟩ ++ holder) (by rw [ByteArray.size_append]; omega); have hadd2 := fun W => run_string_add_sum (P := Tryz.prog) W ⟨#[32]⟩ holder (by omega); go_wp2; clear hadd2 hadd3
         go_loop [8] (fun q => ∃ (k : Nat), k ≤ text.size ∧ q = .int .i64 k ∧ ∀ j, j < k → chr text j ≠ 10) (fun i => text.size - (intOf i).toNat)
         case atStart => exact ⟨0, Nat.zero_le _, rfl, fun j hj => absurd hj (by omega)⟩
         case round =>
          obtain ⟨k, hk, rfl, hn⟩ := hrel; have HK : Hid (∀ j, j < k → chr text j ≠ 10) := hn; clear hn
          by_cases hlt : k < text.size
          ·
           have hc := chr_eq text k hlt
           by_cases hx : chr text k = 10
           ·
            have tx : (text[k].toNat : Int) = 10 := by rw [hc, hx]; rfl
            have HX : Hid (¬ NoNl text) := fun q => q k hlt hx; clear hc hx; go_wp2; go_ret; exact ⟨RetLn.no (fun q => HX.out (LineOk.n q HN.out).2.2.2.2.2.2.2.2), bw2⟩
           ·
            have tx : ((text[k].toNat : Int) == 10) = false := by rw [hc]; simp; omega
            have HX : Hid (chr text k ≠ 10) := hx; clear hc hx; go_wp2
            go_round
            case rel => exact ⟨k + 1, by omega, by go_num, fun j hj => by
             by_cases e : j = k
             · subst e; exact HX.out
             · exact HK.out j (by omega)⟩
            case measure => simp [intOf]; omega
          ·
           obtain rfl : k = text.size := by omega
           have hadd5 := fun W => run_string_add_sum (P := Tryz.prog) W ⟨#[58, 32]⟩ text (by have : (ByteArray.mk #[58, 32]).size = 2 := rfl; omega); have hadd6 := fun W => run_string_add_sum (P := Tryz.prog) W (s ++ (⟨#[32]⟩ ++ holder)) (⟨#[58, 32]⟩ ++ text) (by rw [ByteArray.size_append, ByteArray.size_append, ByteArray.size_append]; have : (ByteArray.mk #[58, 32]).size = 2 := rfl; omega); go_wp2; go_ret; refine ⟨RetLn.yes (Or.inr ⟨(show In (3 : Int) 2 9 from ⟨by decide, by decide⟩), H0.out, rfl, HL.out, fun _ => HH.out, fun h => absurd (Or.inl rfl) h, fun h => absurd rfl h, H6.out, HK.out⟩) ?_, bw2⟩; rw [bl_colon, bl_blank, HS.out, lineT_3 rfl]
        ·
         have t6 : (200 : Int) < (text.size : Int) := by omega
         have H6 : Hid (¬ text.size ≤ 200) := h; clear h; go_wp2; go_ret; exact ⟨RetLn.no (fun q => H6.out (LineOk.n q HN.out).2.2.2.2.2.2.2.1), bw2⟩
      ·
       have HH : Hid (¬ NameOk holder) := hp; clear hp hr; go_wp2; go_ret; exact ⟨RetLn.no (fun q => HH.out ((LineOk.n q HN.out).2.2.2.2.1 (Or.inl rfl))), bw2⟩
    by_cases o4 : op = 4
    ·
     subst o4; clear o3
     by_cases h : holder.size = 0
     ·
      have th : holder.toList.isEmpty = true := isE_t h; have HH : Hid (holder.size = 0) := h; clear h; go_wp2; go_ret; exact ⟨RetLn.no (fun q => by have := ((LineOk.n q HN.out).2.2.2.2.1 (Or.inr rfl)).2.1; have := HH.out; simp only at *; omega), bw2⟩
     ·
      have th : holder.toList.isEmpty = false := isE_f h; clear h
      go_wp2_with fail
      refine (l1name_any holder _ (by omega)).mono ?_; rintro e w' ⟨hr, hw'⟩; obtain rfl := hw'.symm; rcases hr.cases with ⟨rfl, hp⟩ | ⟨rfl, hp⟩
      ·
       have HH : Hid (NameOk holder) := hp; have hhs : holder.size ≤ 20 := hp.2.2; clear hp hr
       by_cases h : text.size = 0
       ·
        have t5 : text.toList.isEmpty = true := isE_t h; have H5 : Hid (text.size = 0) := h; have t6 : ¬ (200 : Int) < (text.size : Int) := by omega
        clear h; have hadd3 := fun W => run_string_add_sum (P := Tryz.prog) W s (⟨#[32]⟩ ++ holder) (by rw [ByteArray.size_append]; omega); have hadd2 := fun W => run_string_add_sum (P := Tryz.prog) W ⟨#[32]⟩ holder (by omega); go_wp2; go_ret; refine ⟨RetLn.yes (Or.inr ⟨(show In (4 : Int) 2 9 from ⟨by decide, by decide⟩), H0.out, rfl, HL.out, fun _ => HH.out, fun h => absurd (Or.inr rfl) h, fun _ => H5.out, by have := H5.out; simp only; omega, noNl_empty H5.out⟩) ?_, bw2⟩; rw [bl_blank, HS.out, lineT_4 rfl]
       ·
        have t5 : text.toList.isEmpty = false := isE_f h; have H5 : Hid (¬ text.size = 0) := h; clear h; go_wp2; go_ret; exact ⟨RetLn.no (fun q => H5.out ((LineOk.n q HN.out).2.2.2.2.2.2.1 (show ¬ (4 : Int) = 3 by decide))), bw2⟩
      ·
       have HH : Hid (¬ NameOk holder) := hp; clear hp hr; go_wp2; go_ret; exact ⟨RetLn.no (fun q => HH.out ((LineOk.n q HN.out).2.2.2.2.1 (Or.inr rfl))), bw2⟩
    have t3 : (op == 3) = false := by simpa using o3
    have t4 : (op == 4) = false := by simpa using o4
    have t3' : (op != 3) = true := by simpa using o3
    have HO : Hid (¬ op = 3 ∧ ¬ op = 4) := ⟨o3, o4⟩; clear o3 o4
    by_cases h : holder.size = 0
    ·
     have th : holder.toList.isEmpty = true := isE_t h; have HH : Hid (holder.size = 0) := h; clear h
     by_cases h : text.size = 0
     ·
      have t5 : text.toList.isEmpty = true := isE_t h; have H5 : Hid (text.size = 0) := h; have t6 : ¬ (200 : Int) < (text.size : Int) := by omega
      clear h; go_wp2; go_ret; refine ⟨RetLn.yes (Or.inr ⟨by have := HP.out; have := HN.out; unfold In at *; simp only; omega, H0.out, rfl, HL.out, fun h => absurd h (by have := HO.out; simp only; omega), fun _ => HH.out, fun _ => H5.out, by have := H5.out; simp only; omega, noNl_empty H5.out⟩) ?_, bw2⟩; rw [HS.out, lineT_0 HN.out HO.out.1 HO.out.2]
     ·
      have t5 : text.toList.isEmpty = false := isE_f h; have H5 : Hid (¬ text.size = 0) := h; clear h; go_wp2; go_ret; exact ⟨RetLn.no (fun q => H5.out ((LineOk.n q HN.out).2.2.2.2.2.2.1 (HO.out.1))), bw2⟩
    ·
     have th : holder.toList.isEmpty = false := isE_f h; have HH : Hid (¬ holder.size = 0) := h; clear h; go_wp2; go_ret; exact ⟨RetLn.no (fun q => HH.out ((LineOk.n q HN.out).2.2.2.2.2.1 (by have := HO.out; simp only; omega))), bw2⟩
   ·
    have tl : (0 : Int) < (secs.length : Int) := by omega
    have HL : Hid (¬ secs.length = 0) := hl; subst h; clear hl; go_wp2; go_ret; exact ⟨RetLn.no (fun q => HL.out (LineOk.n q HN.out).2.2.2.1), bw⟩
  ·
   have t2 : (kind != 0) = true := by simpa using h
   have H2 : Hid (¬ kind = 0) := h; clear h; go_wp2; go_ret; exact ⟨RetLn.no (fun q => H2.out (LineOk.n q HN.out).2.2.1), bw⟩
 ·
  have H0 : Hid (¬ In of_ 0 199) := hp; clear hp hr; go_wp2; go_ret; exact ⟨RetLn.no (fun q => H0.out (LineOk.n q HN.out).2.1), bw⟩
end Go.Proofs.YtdlaekjofgbjcaaGreatDoor
