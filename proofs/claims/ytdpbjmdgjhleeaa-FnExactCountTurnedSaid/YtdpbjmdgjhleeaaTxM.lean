/- Tx, TxI: texts in one. -/
import Derived.Test.YtdpbjmdgjhleeaaGen
import Derived.Test.YtdpbjmdgjhleeaaLast
import Derived.Laws.IdiomStrings
set_option linter.all false
namespace Go.Proofs.Ytdpbjmdgjhleeaa
open Go.RowKit

section
variable {P : Program} {ops : Array Oper} {Q : Exit → Act → World → Prop} {md : Region.Mode} {S : World → Prop}
/-- Two operations that may come. -/
theorem wpTop.duo (i j : Nat) {n : Nat} {o o' : Oper} {f : Nat} {done : Array Bool} {a : Act} {w : World} (ho : ops[i]? = some o) (ho' : ops[j]? = some o') (hr : Region.ready md ops done = [i, j])
    (h : ∀ K' : Act → World → Prop, Shut (∀ a w, (i < n → S w) → ((i < n → S w) → wpTop P md ops Q S n f (done.setIfInBounds i true) a w) → K' a w) →
      if Region.wanted o (yielded ops a.tmps) = true then Oper.wp P o a w K' Q else K' (a.put o.dst undef) w)
    (h' : ∀ K' : Act → World → Prop, Shut (∀ a w, (j < n → S w) → ((j < n → S w) → wpTop P md ops Q S n f (done.setIfInBounds j true) a w) → K' a w) →
      if Region.wanted o' (yielded ops a.tmps) = true then Oper.wp P o' a w K' Q else K' (a.put o'.dst undef) w) : wpTop P md ops Q S n (f + 1) done a w := by
  refine ⟨fun e => (by rw [hr] at e; cases e), fun k hk => ?_⟩
  rw [hr] at hk
  rcases List.mem_cons.1 hk with rfl | hk
  · exact wpOp_step ho fun K' hK => h K' fun a w hS hW => hK a w ⟨hS, hW hS⟩
  · obtain rfl := List.mem_singleton.1 hk
    exact wpOp_step ho' fun K' hK => h' K' fun a w hS hW => hK a w ⟨hS, hW hS⟩
end
/-- A digit's byte. -/
def dig (k : Nat) : UInt8 := UInt8.ofNat (48 + k)
/-- A number's digits. -/
def dec (n : Nat) : List UInt8 := if h : n < 10 then [dig n] else dec (n / 10) ++ [dig (n % 10)]
termination_by n
decreasing_by omega
theorem dec_small {n : Nat} (h : n < 10) : dec n = [dig n] := by rw [dec, dif_pos h]
theorem dec_great {n : Nat} (h : ¬ n < 10) : dec n = dec (n / 10) ++ [dig (n % 10)] := by rw [dec, dif_neg h]
theorem dec_len (n : Nat) : ∀ k, n < 10 ^ (k + 1) → (dec n).length ≤ k + 1 := by
  intro k
  induction k generalizing n with
  | zero => intro h; rw [dec_small (by simpa using h)]; simp
  | succ k ih =>
    intro h
    by_cases h' : n < 10
    · rw [dec_small h']; simp
    · rw [dec_great h', List.length_append]
      have := ih (n / 10) (by rw [Nat.pow_succ] at h; omega)
      simp; omega
def bas (l : List UInt8) : ByteArray := ⟨l.toArray⟩
theorem bas_app (l m : List UInt8) : bas l ++ bas m = bas (l ++ m) := by
  apply ByteArray.ext; simp [bas, ByteArray.data_append]
theorem bas_inj {l m : List UInt8} (h : bas l = bas m) : l = m := by
  have := congrArg (fun b => b.data.toList) h; simpa [bas] using this
theorem digit_u8 (k : Nat) (h : k < 10) : (((dig k).toNat : Nat) : Int) = 48 + (k : Int) := by
  unfold dig
  have : (UInt8.ofNat (48 + k)).toNat = 48 + k := by rw [UInt8.toNat_ofNat']; omega
  rw [this]; omega
/-- A byte's slice is read back. -/
theorem back1 (w W : World) (b c : Nat) (k : Nat) (h : k < 10) (hc : W.cell? ⟨b, 0, none⟩ = some (.int .u8 (48 + (k : Int)))) : (convert 124 9 (.slice (some ⟨b, 0, none⟩) 1 c)).run Try.prog W = .ok (.string (bas [dig k])) W := by
  refine run_convert_bytes_back (P := Try.prog) W 124 9 5 ⟨b, 0, none⟩ c [dig k] Try.underlying124 Try.underlying5 Try.underlying9 ?_
  intro j hj
  have : j = 0 := by simpa using hj
  subst this
  simp only [List.getElem_cons_zero, digit_u8 k h]
  simpa [Addr.add] using hc
def RetNum (w : World) (l : List UInt8) (e : Ending) (w' : World) : Prop := e = .returned (.string (bas l)) ∧ Below w.heap.size w w'
set_option maxRecDepth 100000 in
set_option maxHeartbeats 2000000 in
theorem num_small (n : Nat) (h : n < 10) (w : World) : Calls Try.prog 119 #[.int .i64 n] w (RetNum w (dec n)) := by
  rw [dec_small h]
  have q1 : decide ((n : Int) < 10) = true := by simp; omega
  have kc := back1 w (w.alloc (.cells #[.int .u8 (48 + (n : Int))] 5)) w.heap.size 1 n h (by simp)
  go_enter Try.func119, Try.ntmps119
  go_wp2_with fail
  go_ret
  exact ⟨rfl, (Below.refl _ _).alloc (Nat.le_refl _) _⟩
set_option maxRecDepth 100000 in
set_option maxHeartbeats 4000000 in
theorem num_any (n : Nat) (hn : n ≤ 9223372036854775807) (w : World) : Calls Try.prog 119 #[.int .i64 n] w (RetNum w (dec n)) := by
  induction n using Nat.strongRecOn generalizing w with
  | _ n ih =>
  by_cases h : n < 10
  · exact num_small n h w
  · have IH := fun (V : World) => ih (n / 10) (by omega) (by omega) V
    rw [dec_great h]
    have HI := Lib.hid IH
    have q1 : decide ((n : Int) < 10) = false := by simp; omega
    have q2 : IntKind.i64.wrap ((n : Int).tdiv 10) = ((n / 10 : Nat) : Int) := by rw [Int.tdiv_eq_ediv_of_nonneg (by omega)]; exact IntWalk.i64_in _ (by omega)
    obtain ⟨d, hd⟩ : ∃ d, n % 10 = d := ⟨_, rfl⟩
    have hd9 : d < 10 := by omega
    have q3 : (n : Int).tmod 10 = (d : Int) := by rw [Int.tmod_eq_emod_of_nonneg (by omega)]; omega
    obtain ⟨m, hm⟩ : ∃ m, n / 10 = m := ⟨_, rfl⟩
    rw [hd, hm]
    rw [hm] at q2 HI
    have KC := fun (W : World) (b : Nat) => back1 w W b 1 d hd9
    have HK := Lib.hid KC
    have q2' : IntKind.i64.wrap ((n : Int) / 10) = (m : Int) := by rw [← hm]; exact IntWalk.i64_in _ (by omega)
    have q4 : IntKind.i64.wrap (48 + (d : Int)) = 48 + (d : Int) := IntWalk.i64_in _ (by omega)
    have q5 : IntKind.u8.wrap (48 + (d : Int)) = 48 + (d : Int) := IntWalk.u8_in _ (by omega)
    have hsz : ¬ 9223372036854775807 < (bas (dec m)).size + (bas [dig d]).size := by
      have := dec_len m 19 (by omega)
      have e : (bas (dec m)).size = (dec m).length := by simp [bas, ByteArray.size]
      have e2 : (bas [dig d]).size = 1 := rfl
      omega
    clear IH ih KC hd hm
    go_enter Try.func119, Try.ntmps119
    go_wp2_with fail
    refine wp_region_top 11 (fun w' => Below w.heap.size w w') (by kernel_rfl) ((Below.refl _ _).drew) (fun hHeld => ?_)
    refine wpTop.take 0 (v := ?_) rfl (by kernel_rfl) (by kernel_rfl) (by kernel_rfl) (by kernel_rfl) (fun _ _ _ h => h) (Or.inl ⟨by rfl, ?_⟩) (by assumption) ?_
    rotate_left
    · intro w hSw; (try dsimp only at hSw); go_simp; try (with_reducible rfl)
    try simp only [Act.put, List.getElem_toArray, List.getElem_cons_zero, List.getElem_cons_succ, List.setIfInBounds_toArray, List.set_cons_zero, List.set_cons_succ]
    refine wpTop.take 1 (v := ?_) rfl (by kernel_rfl) (by kernel_rfl) (by kernel_rfl) (by kernel_rfl) (fun _ _ _ h => h) (Or.inl ⟨by rfl, ?_⟩) (by assumption) ?_
    rotate_left
    · intro w hSw; (try dsimp only at hSw); go_simp; try (with_reducible rfl)
    try simp only [Act.put, List.getElem_toArray, List.getElem_cons_zero, List.getElem_cons_succ, List.setIfInBounds_toArray, List.set_cons_zero, List.set_cons_succ]
    refine wpTop.take 3 (v := ?_) rfl (by kernel_rfl) (by kernel_rfl) (by kernel_rfl) (by kernel_rfl) (fun _ _ _ h => h) (Or.inl ⟨by rfl, ?_⟩) (by assumption) ?_
    rotate_left
    · intro w hSw; (try dsimp only at hSw); go_simp; try (with_reducible rfl)
    try simp only [Act.put, List.getElem_toArray, List.getElem_cons_zero, List.getElem_cons_succ, List.setIfInBounds_toArray, List.set_cons_zero, List.set_cons_succ]
    refine wpTop.take 4 (v := ?_) rfl (by kernel_rfl) (by kernel_rfl) (by kernel_rfl) (by kernel_rfl) (fun _ _ _ h => h) (Or.inl ⟨by rfl, ?_⟩) (by assumption) ?_
    rotate_left
    · intro w hSw; (try dsimp only at hSw); go_simp; try (with_reducible rfl)
    try simp only [Act.put, List.getElem_toArray, List.getElem_cons_zero, List.getElem_cons_succ, List.setIfInBounds_toArray, List.set_cons_zero, List.set_cons_succ]
    refine wpTop.take 5 (v := ?_) rfl (by kernel_rfl) (by kernel_rfl) (by kernel_rfl) (by kernel_rfl) (fun _ _ _ h => h) (Or.inl ⟨by rfl, ?_⟩) (by assumption) ?_
    rotate_left
    · intro w hSw; (try dsimp only at hSw); go_simp; try (with_reducible rfl)
    try simp only [Act.put, List.getElem_toArray, List.getElem_cons_zero, List.getElem_cons_succ, List.setIfInBounds_toArray, List.set_cons_zero, List.set_cons_succ]
    refine wpTop.take 6 (v := ?_) rfl (by kernel_rfl) (by kernel_rfl) (by kernel_rfl) (by kernel_rfl) (fun _ _ _ h => h) (Or.inl ⟨by rfl, ?_⟩) (by assumption) ?_
    rotate_left
    · intro w hSw; (try dsimp only at hSw); go_simp; try (with_reducible rfl)
    try simp only [Act.put, List.getElem_toArray, List.getElem_cons_zero, List.getElem_cons_succ, List.setIfInBounds_toArray, List.set_cons_zero, List.set_cons_succ]
    have hd0 : Below w.heap.size w w.drew := (Below.refl _ _).drew
    refine wpTop.duo 2 7 rfl rfl (by kernel_rfl) (fun K hK => ?_) (fun K hK => ?_)
    · go_simp
      (with_reducible refine (HI.out _).mono ?_)
      rintro e w1 ⟨rfl, hb1⟩
      have hw1 : Below w.heap.size w w1 := (hd0).trans (hb1.mono (hd0).size)
      refine hK.out _ _ (fun _ => hw1) (fun hH => ?_)
      clear hK K
      have hHeld := hH (by decide)
      clear hH
      try simp only [Act.put, List.getElem_toArray, List.getElem_cons_zero, List.getElem_cons_succ, List.setIfInBounds_toArray, List.set_cons_zero, List.set_cons_succ]
      refine wpTop.one 7 rfl (by kernel_rfl) (fun K hK => ?_)
      go_simp
      refine hK.out _ _ (fun _ => hw1.alloc hw1.size _) (fun hH => ?_)
      clear hK K
      have hHeld := hH (by decide)
      clear hH
      try simp only [Act.put, List.getElem_toArray, List.getElem_cons_zero, List.getElem_cons_succ, List.setIfInBounds_toArray, List.set_cons_zero, List.set_cons_succ]
      have KC := HK.out (w1.alloc (.cells #[.int .u8 (48 + (d : Int))] 5)) w1.heap.size (by simp)
      refine wpTop.one 8 rfl (by kernel_rfl) (fun K hK => ?_)
      go_simp
      refine hK.out _ _ (fun _ => hw1.alloc hw1.size _) (fun hH => ?_)
      clear hK K
      have hHeld := hH (by decide)
      clear hH
      try simp only [Act.put, List.getElem_toArray, List.getElem_cons_zero, List.getElem_cons_succ, List.setIfInBounds_toArray, List.set_cons_zero, List.set_cons_succ]
      refine wpTop.one 9 rfl (by kernel_rfl) (fun K hK => ?_)
      go_simp
      refine hK.out _ _ (fun _ => hw1.alloc hw1.size _) (fun hH => ?_)
      clear hK K
      have hHeld := hH (by decide)
      clear hH
      try simp only [Act.put, List.getElem_toArray, List.getElem_cons_zero, List.getElem_cons_succ, List.setIfInBounds_toArray, List.set_cons_zero, List.set_cons_succ]
      refine wpTop.one 10 rfl (by kernel_rfl) (fun K hK => ?_)
      go_simp
      refine hK.out _ _ (fun _ => hw1.alloc hw1.size _) (fun hH => ?_)
      clear hK K
      have hHeld := hH (by decide)
      clear hH
      try simp only [Act.put, List.getElem_toArray, List.getElem_cons_zero, List.getElem_cons_succ, List.setIfInBounds_toArray, List.set_cons_zero, List.set_cons_succ]
      refine wpTop.all (by kernel_rfl) ?_ _
      go_wp2_with fail
      go_ret
      exact ⟨by rw [← bas_app]; rfl, hw1.alloc hw1.size _⟩
    · go_simp
      refine hK.out _ _ (fun _ => hd0.alloc hd0.size _) (fun hH => ?_)
      clear hK K
      have hHeld := hH (by decide)
      clear hH
      try simp only [Act.put, List.getElem_toArray, List.getElem_cons_zero, List.getElem_cons_succ, List.setIfInBounds_toArray, List.set_cons_zero, List.set_cons_succ]
      have ha0 : Below w.heap.size w (w.drew.alloc (.cells #[.int .u8 (48 + (d : Int))] 5)) := hd0.alloc hd0.size _
      refine wpTop.duo 2 8 rfl rfl (by kernel_rfl) (fun K hK => ?_) (fun K hK => ?_)
      · go_simp
        (with_reducible refine (HI.out _).mono ?_)
        rintro e w1 ⟨rfl, hb1⟩
        have hw1 : Below w.heap.size w w1 := (ha0).trans (hb1.mono (ha0).size)
        refine hK.out _ _ (fun _ => hw1) (fun hH => ?_)
        clear hK K
        have hHeld := hH (by decide)
        clear hH
        try simp only [Act.put, List.getElem_toArray, List.getElem_cons_zero, List.getElem_cons_succ, List.setIfInBounds_toArray, List.set_cons_zero, List.set_cons_succ]
        have KC := HK.out w1 w.heap.size ((hb1.cell (p := ⟨w.heap.size, 0, none⟩) (by simp)).trans (by simp))
        refine wpTop.one 8 rfl (by kernel_rfl) (fun K hK => ?_)
        go_simp
        refine hK.out _ _ (fun _ => hw1) (fun hH => ?_)
        clear hK K
        have hHeld := hH (by decide)
        clear hH
        try simp only [Act.put, List.getElem_toArray, List.getElem_cons_zero, List.getElem_cons_succ, List.setIfInBounds_toArray, List.set_cons_zero, List.set_cons_succ]
        refine wpTop.one 9 rfl (by kernel_rfl) (fun K hK => ?_)
        go_simp
        refine hK.out _ _ (fun _ => hw1) (fun hH => ?_)
        clear hK K
        have hHeld := hH (by decide)
        clear hH
        try simp only [Act.put, List.getElem_toArray, List.getElem_cons_zero, List.getElem_cons_succ, List.setIfInBounds_toArray, List.set_cons_zero, List.set_cons_succ]
        refine wpTop.one 10 rfl (by kernel_rfl) (fun K hK => ?_)
        go_simp
        refine hK.out _ _ (fun _ => hw1) (fun hH => ?_)
        clear hK K
        have hHeld := hH (by decide)
        clear hH
        try simp only [Act.put, List.getElem_toArray, List.getElem_cons_zero, List.getElem_cons_succ, List.setIfInBounds_toArray, List.set_cons_zero, List.set_cons_succ]
        refine wpTop.all (by kernel_rfl) ?_ _
        go_wp2_with fail
        go_ret
        exact ⟨by rw [← bas_app]; rfl, hw1⟩
      · have KC := HK.out (w.alloc (.cells #[.int .u8 (48 + (d : Int))] 5)).drew w.heap.size (by simp)
        go_simp
        refine hK.out _ _ (fun _ => ha0) (fun hH => ?_)
        clear hK K
        have hHeld := hH (by decide)
        clear hH
        try simp only [Act.put, List.getElem_toArray, List.getElem_cons_zero, List.getElem_cons_succ, List.setIfInBounds_toArray, List.set_cons_zero, List.set_cons_succ]
        refine wpTop.one 2 rfl (by kernel_rfl) (fun K hK => ?_)
        go_simp
        (with_reducible refine (HI.out _).mono ?_)
        rintro e w1 ⟨rfl, hb1⟩
        have hw1 : Below w.heap.size w w1 := (ha0).trans (hb1.mono (ha0).size)
        refine hK.out _ _ (fun _ => hw1) (fun hH => ?_)
        clear hK K
        have hHeld := hH (by decide)
        clear hH
        try simp only [Act.put, List.getElem_toArray, List.getElem_cons_zero, List.getElem_cons_succ, List.setIfInBounds_toArray, List.set_cons_zero, List.set_cons_succ]
        refine wpTop.one 9 rfl (by kernel_rfl) (fun K hK => ?_)
        go_simp
        refine hK.out _ _ (fun _ => hw1) (fun hH => ?_)
        clear hK K
        have hHeld := hH (by decide)
        clear hH
        try simp only [Act.put, List.getElem_toArray, List.getElem_cons_zero, List.getElem_cons_succ, List.setIfInBounds_toArray, List.set_cons_zero, List.set_cons_succ]
        refine wpTop.one 10 rfl (by kernel_rfl) (fun K hK => ?_)
        go_simp
        refine hK.out _ _ (fun _ => hw1) (fun hH => ?_)
        clear hK K
        have hHeld := hH (by decide)
        clear hH
        try simp only [Act.put, List.getElem_toArray, List.getElem_cons_zero, List.getElem_cons_succ, List.setIfInBounds_toArray, List.set_cons_zero, List.set_cons_succ]
        refine wpTop.all (by kernel_rfl) ?_ _
        go_wp2_with fail
        go_ret
        exact ⟨by rw [← bas_app]; rfl, hw1⟩
/-- A square's text. -/
def txQ (s : Sq) : List UInt8 := 59 :: (dec s.x.toNat ++ 44 :: (dec s.y.toNat ++ 44 :: dec s.d.toNat))
/-- A cut's text. -/
def txC (W H : Nat) (L : List Sq) : List UInt8 := dec W ++ 120 :: dec H ++ (L.map txQ).flatten
theorem dec_6 {n : Nat} (h : n ≤ 1000) : (dec n).length ≤ 6 := dec_len n 5 (by omega)
theorem txQ_len {s : Sq} (h : (0 ≤ s.x ∧ s.x ≤ 1000) ∧ (0 ≤ s.y ∧ s.y ≤ 1000) ∧ (0 ≤ s.d ∧ s.d ≤ 1000)) : (txQ s).length ≤ 21 := by
  have a := dec_6 (n := s.x.toNat) (by omega)
  have b := dec_6 (n := s.y.toNat) (by omega)
  have c := dec_6 (n := s.d.toNat) (by omega)
  simp [txQ]; omega
def SmS (s : Sq) : Prop := (0 ≤ s.x ∧ s.x ≤ 1000) ∧ (0 ≤ s.y ∧ s.y ≤ 1000) ∧ (0 ≤ s.d ∧ s.d ≤ 1000)
theorem txC_len {W H : Nat} (hW : W ≤ 1000) (hH : H ≤ 1000) (L : List Sq) (hs : ∀ s ∈ L, SmS s) : (txC W H L).length ≤ 13 + 21 * L.length := by
  have a := dec_6 hW
  have b := dec_6 hH
  have c : (L.map txQ).flatten.length ≤ 21 * L.length := by
    induction L with
    | nil => simp
    | cons s L ih =>
      have h1 := txQ_len (hs s (by simp))
      have h2 := ih fun t ht => hs t (by simp [ht])
      simp only [List.map_cons, List.flatten_cons, List.length_append, List.length_cons]; omega
  simp only [txC, List.length_append, List.length_cons]; omega
theorem txC_zero (W H : Nat) (L : List Sq) : txC W H (L.take 0) = dec W ++ 120 :: dec H := by simp [txC]
theorem txC_succ (W H : Nat) (L : List Sq) (k : Nat) (s : Sq) (h : L[k]? = some s) : txC W H (L.take (k + 1)) = txC W H (L.take k) ++ txQ s := by
  obtain ⟨hk, e⟩ := List.getElem?_eq_some_iff.1 h
  rw [List.take_succ_eq_append_getElem hk, e]; simp [txC]
theorem bas_size (l : List UInt8) : (bas l).size = l.length := by simp [bas, ByteArray.size]
theorem numL (z : Int) (hz : 0 ≤ z ∧ z ≤ 1000) (w : World) : Calls Try.prog 119 #[.int .i64 z] w fun e w' => e = .returned (.string (bas (dec z.toNat))) ∧ Below w.heap.size w w' := by
  obtain ⟨n, rfl⟩ := Int.eq_ofNat_of_zero_le hz.1
  exact num_any n (by omega) w
theorem str120 : (⟨#[120]⟩ : ByteArray) = bas [120] := rfl
theorem str59 : (⟨#[59]⟩ : ByteArray) = bas [59] := rfl
theorem str44 : (⟨#[44]⟩ : ByteArray) = bas [44] := rfl
set_option maxRecDepth 100000 in
set_option maxHeartbeats 8000000 in
theorem cuText_any (W H : Int) (A : Option Addr) (n c : Nat) (L : List Sq) (w : World) (hl : L.length = n) (hn : n ≤ 100) (hW : 0 ≤ W ∧ W ≤ 1000) (hH : 0 ≤ H ∧ H ≤ 1000) (hL : SqsAt w w.heap.size A L) (hs : ∀ s ∈ L, SmS s) :
    Calls Try.prog 73 #[.agg #[.int .i64 W, .int .i64 H, .slice A n c]] w fun e w' => e = .returned (.string (bas (txC W.toNat H.toNat L))) ∧ Below w.heap.size w w' := by
  have B0 : Below w.heap.size w (w.alloc (.cells #[.int .i64 W, .int .i64 H, .slice A n c] 28)) := (Below.refl _ _).alloc (Nat.le_refl _) _
  have K0 := Bx.start w W H A n c 28
  have hW6 := dec_6 (n := W.toNat) (by omega)
  have hH6 := dec_6 (n := H.toNat) (by omega)
  have hz := txC_zero W.toNat H.toNat L
  obtain ⟨T, hT⟩ : ∃ T : Nat → List UInt8, T = fun k => txC W.toNat H.toNat (L.take k) := ⟨_, rfl⟩
  have hTl : ∀ k, (T k).length ≤ 2113 := fun k => by
    have := txC_len (W := W.toNat) (H := H.toNat) (by omega) (by omega) (L.take k) (fun s h => hs s (List.mem_of_mem_take h))
    rw [hT]; have h2 : (L.take k).length ≤ L.length := by rw [List.length_take]; omega
    simp only; omega
  have hT0 : T 0 = dec W.toNat ++ 120 :: dec H.toNat := by rw [hT]; exact hz
  have hTs : ∀ k s, L[k]? = some s → T (k + 1) = T k ++ txQ s := fun k s h => by rw [hT]; exact txC_succ _ _ L k s h
  have hTn : T n = txC W.toNat H.toNat L := by rw [hT]; simp only; rw [List.take_of_length_le (by omega)]
  have C1 := fun (V : World) => numL W hW V
  have C2 := fun (V : World) => numL H hH V
  obtain ⟨a, ha⟩ : ∃ a, dec W.toNat = a := ⟨_, rfl⟩
  obtain ⟨b, hb⟩ : ∃ b, dec H.toNat = b := ⟨_, rfl⟩
  rw [ha] at C1 hW6 hT0
  rw [hb] at C2 hH6 hT0
  have sa := bas_size a
  have sb := bas_size b
  obtain ⟨SA, hSA⟩ : ∃ SA, bas a = SA := ⟨_, rfl⟩
  obtain ⟨SB, hSB⟩ : ∃ SB, bas b = SB := ⟨_, rfl⟩
  rw [hSA] at C1 sa
  rw [hSB] at C2 sb
  have u1 : ¬ 9223372036854775807 < SA.size + (⟨#[120]⟩ : ByteArray).size := by have : (⟨#[120]⟩ : ByteArray).size = 1 := rfl; omega
  have u2 : ¬ 9223372036854775807 < (SA ++ ⟨#[120]⟩).size + SB.size := by rw [ByteArray.size_append]; have : (⟨#[120]⟩ : ByteArray).size = 1 := rfl; omega
  have HT0 := Lib.hid hT0
  have HTL := Lib.hid hTl
  have HTS := Lib.hid hTs
  have HTN := Lib.hid hTn
  have HSA := Lib.hid hSA
  have HSB := Lib.hid hSB
  rw [← hTn]
  obtain ⟨W0, hW0⟩ : ∃ W0, W0 = w.alloc (.cells #[.int .i64 W, .int .i64 H, .slice A n c] 28) := ⟨_, rfl⟩
  rw [← hW0] at B0 K0
  have F0 : ∀ u : Later W0.heap.size W0, u.val.cell? ⟨w.heap.size, 0, none⟩ = some (.int .i64 W) := fun u => (u.ok.cell (p := ⟨_, _, none⟩) K0.lt).trans K0.c0
  have F1 : ∀ u : Later W0.heap.size W0, u.val.cell? ⟨w.heap.size, 1, none⟩ = some (.int .i64 H) := fun u => (u.ok.cell (p := ⟨_, _, none⟩) K0.lt).trans K0.c1
  have D1 := fun (u : Later W0.heap.size W0) => C1 u.val
  have D2 := fun (u : Later W0.heap.size W0) => C2 u.val
  clear hT hT0 hTl hTs hTn ha hb hSA hSB hz sa sb C1 C2
  go_enter Try.func73, Try.ntmps73
  go_wp2_with fail
  rw [← hW0]
  clear hW0
  refine wp_region_sub W0.heap.size (by kernel_rfl) (by kernel_rfl) ?_
  iterate 9 (first | go_big_quiet_step ((go_at_call 119; first  | (with_reducible exact sub_of _ (Nat.le_refl _) (D1 _)) | (with_reducible exact sub_of _ (Nat.le_refl _) (D2 _)))) | quiet_step ((go_at_call 119; first  | (with_reducible exact sub_of _ (Nat.le_refl _) (D1 _)) | (with_reducible exact sub_of _ (Nat.le_refl _) (D2 _)))))
  refine wpQuiet_nil ?_
  rintro w2 ⟨uu, hu⟩
  have hb2 : Below W0.heap.size W0 w2 := by rw [hu]; exact uu.ok
  clear hu uu F0 F1 D1 D2 u1 u2
  obtain ⟨kl, k0, k1, k2⟩ := K0.next hb2
  have B2 := B0.trans (hb2.mono B0.size)
  have e0 : SA ++ ⟨#[120]⟩ ++ SB = bas (T 0) := by rw [← HSA.out, ← HSB.out, str120, bas_app, bas_app, HT0.out]; simp
  clear K0 B0 hb2
  go_wp2_with fail
  rw [e0]
  clear e0 kl k0 k1 k2
  go_loopw [3, 17] (fun v i wr => ∃ k : Nat, k ≤ n ∧ i = .int .i64 k ∧ v = .string (bas (T k)) ∧ Below w.heap.size w wr) (fun _ i _ => n - (intOf i).toNat)
  case atStart => exact ⟨0, Nat.zero_le _, rfl, rfl, B2⟩
  case round =>
    obtain ⟨k, hk, rfl, rfl, hbr⟩ := hrel
    by_cases hlt : k < n
    · obtain ⟨s, hsk⟩ : ∃ s, L[k]? = some s := ⟨_, List.getElem?_eq_getElem (by omega)⟩
      obtain ⟨b0, off, rfl, hb0, c0, c1, c2⟩ := (hL.below hbr) k s hsk
      have hsm := hs s (List.mem_of_getElem? hsk)
      have hT1 := HTS.out k s hsk
      have hl1 := HTL.out k
      have C1 := fun (V : World) => numL s.x hsm.1 V
      have C2 := fun (V : World) => numL s.y hsm.2.1 V
      have C3 := fun (V : World) => numL s.d hsm.2.2 V
      have g1 := dec_6 (n := s.x.toNat) (by have := hsm.1; omega)
      have g2 := dec_6 (n := s.y.toNat) (by have := hsm.2.1; omega)
      have g3 := dec_6 (n := s.d.toNat) (by have := hsm.2.2; omega)
      have s1 := bas_size (dec s.x.toNat)
      have s2 := bas_size (dec s.y.toNat)
      have s3 := bas_size (dec s.d.toNat)
      have s4 := bas_size (T k)
      unfold txQ at hT1
      obtain ⟨x, hx⟩ : ∃ x, bas (dec s.x.toNat) = x := ⟨_, rfl⟩
      obtain ⟨y, hy⟩ : ∃ y, bas (dec s.y.toNat) = y := ⟨_, rfl⟩
      obtain ⟨z, hz⟩ : ∃ z, bas (dec s.d.toNat) = z := ⟨_, rfl⟩
      obtain ⟨TK, hTK⟩ : ∃ TK, bas (T k) = TK := ⟨_, rfl⟩
      rw [hx] at s1 C1
      rw [hy] at s2 C2
      rw [hz] at s3 C3
      rw [hTK] at s4
      have n59 : (⟨#[59]⟩ : ByteArray).size = 1 := rfl
      have n44 : (⟨#[44]⟩ : ByteArray).size = 1 := rfl
      have u1 : ¬ 9223372036854775807 < (⟨#[59]⟩ : ByteArray).size + x.size := by omega
      have u2 : ¬ 9223372036854775807 < ((⟨#[59]⟩ : ByteArray) ++ x).size + (⟨#[44]⟩ : ByteArray).size := by rw [ByteArray.size_append]; omega
      have u3 : ¬ 9223372036854775807 < ((⟨#[59]⟩ : ByteArray) ++ x ++ ⟨#[44]⟩).size + y.size := by simp only [ByteArray.size_append]; omega
      have u4 : ¬ 9223372036854775807 < ((⟨#[59]⟩ : ByteArray) ++ x ++ ⟨#[44]⟩ ++ y).size + (⟨#[44]⟩ : ByteArray).size := by simp only [ByteArray.size_append]; omega
      have u5 : ¬ 9223372036854775807 < ((⟨#[59]⟩ : ByteArray) ++ x ++ ⟨#[44]⟩ ++ y ++ ⟨#[44]⟩).size + z.size := by simp only [ByteArray.size_append]; omega
      have u6 : ¬ 9223372036854775807 < TK.size + ((⟨#[59]⟩ : ByteArray) ++ x ++ ⟨#[44]⟩ ++ y ++ ⟨#[44]⟩ ++ z).size := by simp only [ByteArray.size_append]; omega
      have e1 : TK ++ ((⟨#[59]⟩ : ByteArray) ++ x ++ ⟨#[44]⟩ ++ y ++ ⟨#[44]⟩ ++ z) = bas (T (k + 1)) := by
        rw [hT1, ← hTK, ← hx, ← hy, ← hz, str59, str44]; simp only [bas_app]; simp
      have HE1 := Lib.hid e1
      have i1 : (0 : Int) ≤ (k : Int) := by omega
      have i2 : (k : Int) < (n : Int) := by omega
      rw [hTK]
      clear hx hy hz hTK hT1 hl1 g1 g2 g3 s1 s2 s3 s4 n59 n44 e1 hsk hsm
      go_wp2_with fail
      obtain ⟨W1, hW1⟩ : ∃ W1, W1 = wr.alloc (.cells #[.int .i64 s.x, .int .i64 s.y, .int .i64 s.d] 85) := ⟨_, rfl⟩
      have hb1 : Below wr.heap.size wr W1 := by rw [hW1]; exact (Below.refl _ _).alloc (Nat.le_refl _) _
      have hlt1 : wr.heap.size < W1.heap.size := by rw [hW1]; simp
      have x0 : W1.cell? ⟨wr.heap.size, 0, none⟩ = some (.int .i64 s.x) := by rw [hW1]; simp
      have x1 : W1.cell? ⟨wr.heap.size, 1, none⟩ = some (.int .i64 s.y) := by rw [hW1]; simp
      have x2 : W1.cell? ⟨wr.heap.size, 2, none⟩ = some (.int .i64 s.d) := by rw [hW1]; simp
      rw [← hW1]
      clear hW1 c0 c1 c2
      have F0 : ∀ u : Later W1.heap.size W1, u.val.cell? ⟨wr.heap.size, 0, none⟩ = some (.int .i64 s.x) := fun u => (u.ok.cell (p := ⟨_, _, none⟩) hlt1).trans x0
      have F1 : ∀ u : Later W1.heap.size W1, u.val.cell? ⟨wr.heap.size, 1, none⟩ = some (.int .i64 s.y) := fun u => (u.ok.cell (p := ⟨_, _, none⟩) hlt1).trans x1
      have F2 : ∀ u : Later W1.heap.size W1, u.val.cell? ⟨wr.heap.size, 2, none⟩ = some (.int .i64 s.d) := fun u => (u.ok.cell (p := ⟨_, _, none⟩) hlt1).trans x2
      have D1 := fun (u : Later W1.heap.size W1) => C1 u.val
      have D2 := fun (u : Later W1.heap.size W1) => C2 u.val
      have D3 := fun (u : Later W1.heap.size W1) => C3 u.val
      clear C1 C2 C3 x0 x1 x2
      refine wp_region_sub W1.heap.size (by kernel_rfl) (by kernel_rfl) ?_
      iterate 17 (first | go_big_quiet_step ((go_at_call 119; first  | (with_reducible exact sub_of _ (Nat.le_refl _) (D1 _)) | (with_reducible exact sub_of _ (Nat.le_refl _) (D2 _)) | (with_reducible exact sub_of _ (Nat.le_refl _) (D3 _)))) | quiet_step ((go_at_call 119; first  | (with_reducible exact sub_of _ (Nat.le_refl _) (D1 _)) | (with_reducible exact sub_of _ (Nat.le_refl _) (D2 _)) | (with_reducible exact sub_of _ (Nat.le_refl _) (D3 _)))))
      refine wpQuiet_nil ?_
      rintro w5 ⟨uu, hu⟩
      have hb5 : Below W1.heap.size W1 w5 := by rw [hu]; exact uu.ok
      clear hu uu F0 F1 F2 D1 D2 D3 u1 u2 u3 u4 u5 u6
      have hbr5 := hbr.trans ((hb1.trans (hb5.mono hb1.size)).mono hbr.size)
      clear hb5 hb1
      go_wp2_with fail
      go_roundw
      case rel => exact ⟨k + 1, by omega, by go_num, by rw [HE1.out], hbr5⟩
      case measure => simp [intOf]; omega
    · obtain rfl : k = n := by omega
      clear hL hs
      go_wp2_with fail
      go_ret
      exact ⟨rfl, hbr⟩
end Go.Proofs.Ytdpbjmdgjhleeaa
namespace Go.Proofs.Ytdpbjmdgjhleeaa
open Go.RowKit

/-- Is it a digit? -/
def dg (c : UInt8) : Bool := decide (48 ≤ c.toNat) && decide (c.toNat ≤ 57)
theorem dig_nat {k : Nat} (h : k < 10) : (dig k).toNat = 48 + k := by unfold dig; rw [UInt8.toNat_ofNat']; omega
theorem dg_dig {k : Nat} (h : k < 10) : dg (dig k) = true := by unfold dg; rw [dig_nat h]; simp; omega
theorem dec_dg (n : Nat) : ∀ c ∈ dec n, dg c = true := by
  induction n using Nat.strongRecOn with
  | _ n ih =>
  by_cases h : n < 10
  · rw [dec_small h]; intro c hc; rw [List.mem_singleton.1 hc]; exact dg_dig h
  · rw [dec_great h]
    intro c hc
    rcases List.mem_append.1 hc with hc | hc
    · exact ih _ (by omega) c hc
    · rw [List.mem_singleton.1 hc]; exact dg_dig (Nat.mod_lt _ (by omega))
/-- What digits tell. -/
def vl (l : List UInt8) : Nat := l.foldl (fun a c => 10 * a + (c.toNat - 48)) 0
theorem vl_snoc (l : List UInt8) (c : UInt8) : vl (l ++ [c]) = 10 * vl l + (c.toNat - 48) := by simp [vl]
theorem vl_dec (n : Nat) : vl (dec n) = n := by
  induction n using Nat.strongRecOn with
  | _ n ih =>
  by_cases h : n < 10
  · rw [dec_small h]; simp [vl, dig_nat h]
  · rw [dec_great h, vl_snoc, ih _ (by omega), dig_nat (Nat.mod_lt _ (by omega))]; omega
/-- No digit comes first. -/
def Nd (r : List UInt8) : Prop := ∀ c t, r = c :: t → dg c = false
theorem nd_nil : Nd [] := fun c t h => by cases h
theorem nd_cons {c : UInt8} (h : dg c = false) (t : List UInt8) : Nd (c :: t) := fun d u e => by cases e; exact h
theorem take_dec {l r : List UInt8} (hl : ∀ c ∈ l, dg c = true) (hr : Nd r) : (l ++ r).takeWhile dg = l ∧ (l ++ r).dropWhile dg = r := by
  induction l with
  | nil =>
    cases r with
    | nil => simp
    | cons c t => simp [hr c t rfl]
  | cons c l ih =>
    have h1 := hl c (by simp)
    have h2 := ih fun d hd => hl d (by simp [hd])
    simp [h1, h2.1, h2.2]
theorem dec_cancel {n m : Nat} {r r' : List UInt8} (hr : Nd r) (hr' : Nd r') (h : dec n ++ r = dec m ++ r') : n = m ∧ r = r' := by
  have a := take_dec (dec_dg n) hr
  have b := take_dec (dec_dg m) hr'
  rw [h] at a
  have e : dec n = dec m := a.1.symm.trans b.1
  exact ⟨by rw [← vl_dec n, e, vl_dec], a.2.symm.trans b.2⟩
theorem nd_flat (L : List Sq) : Nd (L.map txQ).flatten := by
  cases L with
  | nil => exact nd_nil
  | cons s L => simp only [List.map_cons, List.flatten_cons, txQ, List.cons_append]; exact nd_cons (by decide) _
theorem flat_inj {L M : List Sq} (hL : ∀ s ∈ L, SmS s) (hM : ∀ s ∈ M, SmS s) (h : (L.map txQ).flatten = (M.map txQ).flatten) : L = M := by
  induction L generalizing M with
  | nil =>
    cases M with
    | nil => rfl
    | cons s M => simp [txQ] at h
  | cons s L ih =>
    cases M with
    | nil => simp [txQ] at h
    | cons t M =>
      simp only [List.map_cons, List.flatten_cons, txQ, List.cons_append, List.append_assoc, List.cons.injEq, true_and] at h
      have h1 := dec_cancel (nd_cons (by decide) _) (nd_cons (by decide) _) h
      have h2 := dec_cancel (nd_cons (by decide) _) (nd_cons (by decide) _) (List.cons.inj h1.2).2
      have h3 := dec_cancel (nd_flat L) (nd_flat M) (List.cons.inj h2.2).2
      have hs := hL s (by simp)
      have ht := hM t (by simp)
      obtain ⟨a1, a2, a3⟩ := hs
      obtain ⟨b1, b2, b3⟩ := ht
      rw [ih (fun u hu => hL u (by simp [hu])) (fun u hu => hM u (by simp [hu])) h3.2]
      congr 1
      cases s; cases t
      simp only [Sq.mk.injEq] at *
      omega
theorem txC_inj {W H W' H' : Nat} {L M : List Sq} (hL : ∀ s ∈ L, SmS s) (hM : ∀ s ∈ M, SmS s) (h : txC W H L = txC W' H' M) : W = W' ∧ H = H' ∧ L = M := by
  simp only [txC, List.append_assoc, List.cons_append] at h
  have h1 := dec_cancel (nd_cons (by decide) _) (nd_cons (by decide) _) h
  have h2 := dec_cancel (nd_flat L) (nd_flat M) (List.cons.inj h1.2).2
  exact ⟨h1.1, h2.1, flat_inj hL hM h2.2⟩
end Go.Proofs.Ytdpbjmdgjhleeaa
