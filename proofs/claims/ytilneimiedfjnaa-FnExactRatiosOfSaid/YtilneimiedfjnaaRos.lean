/- RatiosOf: the program's and the model's. -/
import Derived.Test.YtilneimiedfjnaaLawRnk
import Derived.Test.YtilneimiedfjnaaSS
set_option linter.all false
namespace Go.Proofs.Ytilneimiedfjnaa
open Go.RowKit

/-- A row put where none was. -/
theorem OwnSS.setAt {w w1 : World} {base g n c : Nat} {P S : List Rw} {z r : Rw} (h : OwnSS w base (some ⟨g, 0, none⟩) n c (P ++ z :: S)) (hb : Below w.heap.size w w1)
    (ho : w1.ownsRow base 3 1 r.val r.L.length (ints r.L)) (hr : ∀ k, r.val.ownBlock = some k → w.heap.size ≤ k) : OwnSS (w1.setCell ⟨g, P.length, none⟩ r.val) base (some ⟨g, 0, none⟩) n c (P ++ r :: S) := by
  have h1 := h.keep hb
  have hg := (own_lt h.outer).2
  obtain ⟨R1, R2⟩ := h1.outer.stored P.length r.val
  have hv : (vals (P ++ z :: S)).set P.length r.val = vals (P ++ r :: S) := by simp [vals]
  have hne : ∀ k, r.val.ownBlock = some k → some g ≠ some k := fun k hk e => by have := hr k hk; cases e; omega
  have hmem : ∀ s, s ∈ P ++ S → s ∈ P ++ z :: S := fun s hs => by
    rcases List.mem_append.1 hs with hs | hs
    · exact List.mem_append.2 (.inl hs)
    · exact List.mem_append.2 (.inr (List.mem_cons.2 (.inr hs)))
  have hap := List.pairwise_append.1 h1.inner.apart
  have hap2 := List.pairwise_cons.1 hap.2.1
  have hlt : ∀ s, s ∈ P ++ S → ∀ k, s.val.ownBlock = some k → k < w.heap.size := fun s hs k hk => (h.inner.lt (hmem s hs) hk).2
  refine ⟨by have := h.len; simpa using this, by rw [← hv]; exact R1, ⟨fun s hs => ?_, ?_⟩, fun s hs k hk => ?_⟩
  · by_cases e : s ∈ P ++ S
    · exact own_far (h1.inner.own s (hmem s e)) R2 (fun k hk => h1.away s (hmem s e) k hk)
    · have : s = r := by
        rcases List.mem_append.1 hs with hs | hs
        · exact absurd (List.mem_append.2 (.inl hs)) e
        · rcases List.mem_cons.1 hs with hs | hs
          · exact hs
          · exact absurd (List.mem_append.2 (.inr hs)) e
      subst this
      exact own_far ho R2 (fun k hk => hne k hk)
  · rw [List.pairwise_append]
    refine ⟨hap.1, List.pairwise_cons.2 ⟨fun s hs k hk e => ?_, hap2.2⟩, fun s hs q hq k hk e => ?_⟩
    · have := hlt s (List.mem_append.2 (.inr hs)) k e
      have := hr k hk
      omega
    · rcases List.mem_cons.1 hq with rfl | hq
      · have := hlt s (List.mem_append.2 (.inl hs)) k hk
        have := hr k e
        omega
      · exact hap.2.2 s hs q (List.mem_cons.2 (.inr hq)) k hk e
  · by_cases e : s ∈ P ++ S
    · exact h1.away s (hmem s e) k hk
    · have : s = r := by
        rcases List.mem_append.1 hs with hs | hs
        · exact absurd (List.mem_append.2 (.inl hs)) e
        · rcases List.mem_cons.1 hs with hs | hs
          · exact hs
          · exact absurd (List.mem_append.2 (.inr hs)) e
      subst this
      exact hne k hk
/-- The ratio of a place. -/
def rosA (n r : Nat) : Int := (putF (wcs (plcS n r))).1
def rosB (n r : Nat) : Int := (putF (wcs (plcS n r))).2.1
def rosL (n k : Nat) : List (List Int) := (List.range k).map fun r => [rosA n r, rosB n r]
theorem rosL_succ (n k : Nat) : rosL n (k + 1) = rosL n k ++ [[rosA n k, rosB n k]] := by simp [rosL, List.range_succ]
theorem rosL_len (n k : Nat) : (rosL n k).length = k := by simp [rosL]
theorem rosL_tot (n : Nat) : ∀ k, tot (rosL n k) = 2 * k := by
  intro k
  induction k with
  | zero => rfl
  | succ k ih => rw [rosL_succ, tot_app, ih]; simp [tot]; omega
theorem ros_bnd {n r : Nat} (h : n ≤ 7) : (1 ≤ rosA n r ∧ rosA n r ≤ 128) ∧ 1 ≤ rosB n r ∧ rosB n r ≤ 128 := by
  have hG : WordG (wcs (plcS n r)) := plcS_word (by omega)
  have hl : (wcs (plcS n r)).length = n := by rw [wcs_len, plcS_size]
  have h1 := putL_bnd (wcs (plcS n r)) 1 (1, 1, [⟨0, 0, 1⟩]) ⟨by simp, by simp, fun s hs => by simp at hs; subst hs; simp⟩
  rw [hl, Int.mul_one] at h1
  have h2 : (2 : Nat) ^ n ≤ 2 ^ 7 := Nat.pow_le_pow_right (by decide) h
  have h3 : (2 : Int) ^ n = ((2 ^ n : Nat) : Int) := by simp
  rw [h3] at h1
  have a := h1.1
  have b := h1.2.1
  unfold rosA rosB putF
  omega
theorem ros_rat {n r : Nat} (h : n ≤ 7) (hr : r < 2 ^ n) : rnkR ((n : Int) + 1) r = (rosA n r, rosB n r, true) := by
  have hG : WordG (wcs (plcS n r)) := plcS_word (by omega)
  have hb := ros_bnd (n := n) (r := r) h
  have hn1 : ((n : Int) + 1 - 1).toNat = n := by omega
  have hc : ((2 ^ n : Nat) : Int) = (2 : Int) ^ n := by simp
  unfold rnkR
  rw [hn1, if_pos ⟨by omega, by omega, by omega⟩]
  show ratW (plcS n ((r : Int)).toNat) = _
  rw [Int.toNat_natCast]
  unfold ratW
  rw [(put_yes hG).1, (put_yes hG).2.1]
  exact rat2_yes (by show (inB (rosA n r) 1 1000 && inB (rosB n r) 1 1000) = true; rw [inB_iff.2 (by omega), inB_iff.2 (by omega)]; rfl)
noncomputable def rosS (s : Int) : List (List Int) := if inB s 1 8 then rosL (s - 1).toNat (2 ^ (s - 1).toNat) else []
theorem rosS_yes {n : Nat} (h : inB ((n : Int) + 1) 1 8 = true) : rosS ((n : Int) + 1) = rosL n (2 ^ n) := by
  have hn1 : ((n : Int) + 1 - 1).toNat = n := by omega
  unfold rosS
  rw [h, if_pos rfl, hn1]
theorem rosS_no {s : Int} (h : inB s 1 8 = false) : rosS s = [] := by unfold rosS; rw [h]; rfl
def nilR : Rw := ⟨none, 0, []⟩
theorem own2 (w : World) (a b : Int) : (w.alloc (.cells #[.int .i64 a, .int .i64 b] 3)).ownsRow w.heap.size 3 1 (.slice (some ⟨w.heap.size, 0, none⟩) 2 2) 2 (ints [a, b]) :=
  World.ownsRow_lit w #[.int .i64 a, .int .i64 b] 2 (Nat.le_refl _) (by decide) rfl
set_option maxRecDepth 100000 in
set_option maxHeartbeats 8000000 in
theorem implRos_any (s : Int) (w : World) : Calls Try.prog 41 #[.int .i64 s] w (RetSS w (rosS s) (inB s 1 8)) := by
  have hc := implCount_any s w
  obtain ⟨j0, hj, hy0, hy1, hy2⟩ := info_parts infoSl
  by_cases h : 1 ≤ s ∧ s ≤ 21
  · obtain ⟨n, hn⟩ : ∃ n : Nat, s = (n : Int) + 1 := ⟨(s - 1).toNat, by omega⟩
    have hn1 : (s - 1).toNat = n := by omega
    have hn20 : n ≤ 20 := by omega
    obtain ⟨C, hC⟩ : ∃ C, 2 ^ n = C := ⟨_, rfl⟩
    have hCi : (2 : Int) ^ n = (C : Int) := by rw [← hC]; simp
    rw [cntR_yes h, hn1, hCi] at hc
    have HC := Lib.hid hc
    by_cases h8 : n ≤ 7
    · have hok : inB s 1 8 = true := inB_iff.2 (by omega)
      rw [hok]
      rw [hn] at hok ⊢
      rw [rosS_yes hok, hC]
      have hCb : C ≤ 128 := by rw [← hC]; exact Nat.pow_le_pow_right (by decide) h8
      have hC1 : 1 ≤ C := by rw [← hC]; exact Nat.two_pow_pos n
      rw [hn] at HC
      have HCC := Lib.hid hC
      have i8 : (n : Int) + 1 ≤ 8 := by omega
      clear h hn hn1 hc hCi hC hok
      go_enter Try.func41, Try.ntmps41
      go_wp2_with fail
      refine HC.out.mono ?_
      rintro e w' ⟨rfl, rfl⟩
      go_wp2_with (at_make; refine wpList_make_full _ rfl _ _ 50 rfl w.heap.size 25 j0 (.slice none 0 0) 1 Try.underlying50 hj hy0 hy1 .i64 .i64 (C : Int) (C : Int) C rfl rfl rfl rfl (by rw [hy2]; omega) (by unfold maxLen; omega) (Nat.le_refl _) ?_; intro w1 hown hgrow)
      have hb1 : Below w.heap.size w w1 := (Below.refl _ w).grown hgrow (Nat.le_refl _) (by simp)
      obtain ⟨g, hg⟩ : ∃ g, g = w.heap.size := ⟨_, rfl⟩
      have hnil : (madeCells (Value.slice none 0 0).cells (C * 1)).toList = vals (List.replicate C nilR) := by
        rw [show (Value.slice none 0 0).cells = #[Value.slice none 0 0] from rfl, toList_madeCells_one]
        simp [vals, nilR, Rw.val]
      have hs1 : OwnSS w1 w.heap.size (some ⟨g, 0, none⟩) C C (List.replicate C nilR) := by
        refine ⟨by simp, ?_, ⟨fun r hr => ?_, ?_⟩, fun r hr k hk => ?_⟩
        · rw [hg, ← hnil]; exact hown
        · rw [List.mem_replicate] at hr; rw [hr.2]; exact World.ownsRow_nil _ _ _ _
        · rw [List.pairwise_replicate]; right; intro k hk; simp [nilR, Rw.val, Value.ownBlock] at hk
        · rw [List.mem_replicate] at hr; rw [hr.2] at hk; simp [nilR, Rw.val, Value.ownBlock] at hk
      rw [← hg]
      have hgw := (own_lt hs1.outer)
      clear hown hgrow hnil hg
      go_loopw [26] (fun i wr => ∃ (k : Nat) (R : List Rw), k ≤ C ∧ i = .int .i64 k ∧ lists R = rosL n k ∧ OwnSS wr w.heap.size (some ⟨g, 0, none⟩) C C (R ++ List.replicate (C - k) nilR) ∧ Below w.heap.size w wr) (fun i _ => C - (intOf i).toNat)
      case atStart => exact ⟨0, [], Nat.zero_le _, rfl, rfl, by simpa using hs1, hb1⟩
      case round =>
        obtain ⟨k, R, hk, rfl, hR, hS, hb⟩ := hrel
        have HR := Lib.hid hR
        have hRl : R.length = k := by rw [← lists_len, hR, rosL_len]
        clear hR hs1 hb1
        by_cases hlt : k < C
        · have hrk : k < 2 ^ n := by rw [HCC.out]; exact hlt
          have hw := fun w => implRnk_any ((n : Int) + 1) k w
          rw [ros_rat h8 hrk] at hw
          obtain ⟨a, ha⟩ : ∃ a, rosA n k = a := ⟨_, rfl⟩
          obtain ⟨b, hbb⟩ : ∃ b, rosB n k = b := ⟨_, rfl⟩
          rw [ha, hbb] at hw
          have HA := Lib.hid ha
          have HB := Lib.hid hbb
          have HW := Lib.hid hw
          have HL := Lib.hid hRl
          have k0 : (0 : Int) ≤ (k : Int) := by omega
          have k1 : (k : Int) < (C : Int) := by omega
          clear hw ha hbb hrk hRl
          go_wp2_with fail
          refine (HW.out _).mono ?_
          rintro e w2 ⟨rfl, hb2⟩
          have hS2 := hS.keep hb2
          have hB2 := hb.trans (hb2.mono hb.size)
          have hg2 := (own_lt hS2.outer).2
          obtain ⟨v0, e0⟩ := own_some hS2.outer (j := k) (by omega)
          have f0 := hS2.outer.frozenAt k
          have bal : Below w2.heap.size w2 (w2.alloc (.cells #[.int .i64 a, .int .i64 b] 3)) := (Below.refl _ _).alloc (Nat.le_refl _) _
          have hrep : List.replicate (C - k) nilR = nilR :: List.replicate (C - (k + 1)) nilR := by rw [show C - k = (C - (k + 1)) + 1 by omega, List.replicate_succ]
          rw [hrep] at hS2
          have hS3 := hS2.setAt (r := ⟨some ⟨w2.heap.size, 0, none⟩, 2, [a, b]⟩) bal (own_base (own2 w2 a b) hB2.size) (fun k hk => by simp [Rw.val, Value.ownBlock] at hk; omega)
          rw [HL.out] at hS3
          have hB3 := (hB2.alloc hB2.size (.cells #[.int .i64 a, .int .i64 b] 3)).setCell (p := ⟨g, k, none⟩) hgw.1 (.slice (some ⟨w2.heap.size, 0, none⟩) 2 2)
          have hcomm : (w2.alloc (.cells #[.int .i64 a, .int .i64 b] 3)).setCell ⟨g, k, none⟩ (.slice (some ⟨w2.heap.size, 0, none⟩) 2 2) = (w2.setCell ⟨g, k, none⟩ (.slice (some ⟨w2.heap.size, 0, none⟩) 2 2)).alloc (.cells #[.int .i64 a, .int .i64 b] 3) := World.setCell_alloc_past _ _ _ _ hg2
          rw [show (Rw.mk (some ⟨w2.heap.size, 0, none⟩) 2 [a, b]).val = .slice (some ⟨w2.heap.size, 0, none⟩) 2 2 from rfl, hcomm] at hS3
          rw [hcomm] at hB3
          have HB3 := Lib.hid hB3
          clear hcomm hB3
          have HS3 := Lib.hid hS3
          clear hS hS2 hS3 hrep hb hb2
          go_wp2_with fail
          go_roundw
          case rel =>
            refine ⟨k + 1, R ++ [⟨some ⟨w2.heap.size, 0, none⟩, 2, [a, b]⟩], by omega, by simp, ?_, ?_, ?_⟩
            · rw [lists_app, HR.out, rosL_succ, HA.out, HB.out]; rfl
            · have := HS3.out
              rw [List.append_assoc]
              exact this
            · exact HB3.out
          case measure => simp [intOf]; omega
        · obtain rfl : k = C := by omega
          have hS2 := hS
          rw [Nat.sub_self, List.replicate_zero, List.append_nil] at hS2
          have HS2 := Lib.hid hS2
          have i1 : ¬ (k : Int) < (k : Int) := by omega
          clear hS hS2
          go_wp2_with fail
          go_ret2
          exact RetSS.mk HR.out HS2.out hb
    · have hok : inB s 1 8 = false := by
        cases e : inB s 1 8 with
        | false => rfl
        | true => have := inB_iff.1 e; omega
      rw [rosS_no hok, hok]
      have i8 : 8 < (n : Int) + 1 := by omega
      subst hn
      clear h hn1 hc hCi hC hok
      go_enter Try.func41, Try.ntmps41
      go_wp2_with fail
      refine HC.out.mono ?_
      rintro e w' ⟨rfl, rfl⟩
      go_wp2_with fail
      go_ret2
      exact RetSS.none_ (Below.refl _ _)
  · have hok : inB s 1 8 = false := by
      cases e : inB s 1 8 with
      | false => rfl
      | true => have := inB_iff.1 e; omega
    rw [rosS_no hok, hok]
    rw [cntR_no h] at hc
    clear h hok
    go_enter Try.func41, Try.ntmps41
    go_wp2_with fail
    refine hc.mono ?_
    rintro e w' ⟨rfl, rfl⟩
    go_wp2_with fail
    go_ret2
    exact RetSS.none_ (Below.refl _ _)
set_option maxRecDepth 100000 in
set_option maxHeartbeats 8000000 in
theorem specRos_any (s : Int) (w : World) : Calls Try.prog 40 #[.int .i64 s] w (RetSS w (rosS s) (inB s 1 8)) := by
  have hm := l1In_any s 1 8 w
  obtain ⟨j0, hj, hy0, hy1, hy2⟩ := info_parts infoSl
  cases hok : inB s 1 8 with
  | false =>
    rw [rosS_no hok]
    rw [hok] at hm
    clear hok
    go_enter Try.func40, Try.ntmps40
    go_wp2_with fail
    refine hm.mono ?_
    rintro e w' ⟨rfl, rfl⟩
    go_wp2_with fail
    go_ret2
    exact RetSS.none_ (Below.refl _ _)
  | true =>
    have h := inB_iff.1 hok
    obtain ⟨n, hn⟩ : ∃ n : Nat, s = (n : Int) + 1 := ⟨(s - 1).toNat, by omega⟩
    subst hn
    have h8 : n ≤ 7 := by omega
    rw [rosS_yes hok]
    rw [hok] at hm
    obtain ⟨C, hC⟩ : ∃ C, 2 ^ n = C := ⟨_, rfl⟩
    have hCi : (2 : Int) ^ n = (C : Int) := by rw [← hC]; simp
    have hCb : C ≤ 128 := by rw [← hC]; exact Nat.pow_le_pow_right (by decide) h8
    have HPW : wrap64 ((2 : Int) ^ n) = (C : Int) := by rw [pow_in (by omega), hCi]
    rw [hC]
    have HCC := Lib.hid hC
    have HM := Lib.hid hm
    clear hok hm hC hCi h
    go_enter Try.func40, Try.ntmps40
    go_wp2_with fail
    refine HM.out.mono ?_
    rintro e w' ⟨rfl, rfl⟩
    go_wp2_with fail
    go_loopw [4, 5] (fun v i wr => ∃ (k c : Nat) (A : Option Addr) (R : List Rw), k ≤ C ∧ v = .slice A k c ∧ i = .int .i64 k ∧ lists R = rosL n k ∧ OwnSS wr w.heap.size A k c R ∧ Below w.heap.size w wr) (fun _ i _ => C - (intOf i).toNat)
    case atStart => exact ⟨0, 0, none, [], Nat.zero_le _, rfl, rfl, rfl, OwnSS.nil _ _, Below.refl _ _⟩
    case round =>
      obtain ⟨k, c, A, R, hk, rfl, rfl, hR, hS, hb⟩ := hrel
      have HR := Lib.hid hR
      clear hR
      have hzr := hb.size
      by_cases hlt : k < C
      · have hrk : k < 2 ^ n := by rw [HCC.out]; exact hlt
        have hpl := fun w => raPlace_any n k w (by omega) hrk
        have hrr := fun w => raRatio_any (plcS n k) w (plcS_word (by omega))
        obtain ⟨a, ha⟩ : ∃ a, rosA n k = a := ⟨_, rfl⟩
        obtain ⟨b, hbb⟩ : ∃ b, rosB n k = b := ⟨_, rfl⟩
        have hrr2 : ∀ w, Calls Try.prog 80 #[.string (plcS n k)] w fun e w' => e = .returned (.tuple #[.int .i64 a, .int .i64 b]) ∧ w = w' := fun w => by rw [← ha, ← hbb]; exact hrr w
        have HPL := Lib.hid hpl
        have HRR := Lib.hid hrr2
        have HA := Lib.hid ha
        have HB := Lib.hid hbb
        have k1 : (k : Int) < (C : Int) := by omega
        have hbl : k + 1 ≤ maxLen := by unfold maxLen; omega
        have hby : (k + 1) * 24 ≤ 140737488355328 := by omega
        have hlow : ∀ kk, Blk A k c R kk → kk < wr.heap.size := fun kk hkk => (hS.lt hkk).2
        have HLOW := Lib.hid hlow
        clear hpl hrr hrr2 ha hbb hrk hlow
        go_wp2_with fail
        refine (HPL.out _).mono ?_
        rintro e w2 ⟨rfl, rfl⟩
        go_wp2_with fail
        refine (HRR.out _).mono ?_
        rintro e w2 ⟨rfl, rfl⟩
        go_wp2_with (at_builtin; refine app_list rfl _ _ _ rfl w.heap.size 25 j0 (.slice none 0 0) 1 24 Try.underlying50 hj hy0 hy1 hy2 rfl (by decide) (.slice A k c) k _ rfl ((hS.outer.alloc _).alloc _) (some ⟨wr.heap.size + 1, 0, none⟩) 1 1 [.slice (some ⟨wr.heap.size, 0, none⟩) 2 2] rfl rfl (.inr ⟨_, rfl, new1' _ _ _ _⟩) (one1 _ rfl) hbl hby (by simp; omega) ?_; intro v' w6 hown6 hgrow hv6)
        have hB6 : Below w.heap.size w w6 := ((hb.alloc hzr _).alloc (by simp; omega) _).grown hgrow (by simp; omega) (fun k hk => (hS.lt (.inl hk)).1)
        obtain ⟨A7, c7, rfl, hS7⟩ := (hS.keep (((Below.refl _ _).alloc (Nat.le_refl _) _).alloc (by simp) _)).push ⟨some ⟨wr.heap.size, 0, none⟩, 2, [a, b]⟩ ((own_base (own2 wr a b) hzr).alloc _) (fun kk hkk hkb => by have := HLOW.out kk hkb; simp [Rw.val, Value.ownBlock] at hkk; omega) hown6 hgrow hv6
        have HS7 := Lib.hid hS7
        clear hS hS7 hb hgrow hown6 hv6
        go_wp2_with fail
        go_roundw
        case rel => exact ⟨k + 1, c7, A7, _, by omega, rfl, by simp, by rw [lists_app, HR.out, rosL_succ, HA.out, HB.out]; rfl, HS7.out, hB6⟩
        case measure => simp [intOf]; omega
      · obtain rfl : k = C := by omega
        have i1 : ¬ (k : Int) < (k : Int) := by omega
        have HS := Lib.hid hS
        clear hS
        go_wp2_with fail
        go_ret2
        exact RetSS.mk HR.out HS.out hb
end Go.Proofs.Ytilneimiedfjnaa
