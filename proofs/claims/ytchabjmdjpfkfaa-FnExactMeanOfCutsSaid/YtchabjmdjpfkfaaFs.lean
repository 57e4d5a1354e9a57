/- The program's ranges over all cuts of a width and a height. -/
import Derived.Test.YtchabjmdjpfkfaaRfz
import Derived.Test.YtchabjmdjpfkfaaFn
set_option linter.all false
namespace Go.Proofs.Ytchabjmdjpfkfaa
open Go.RowKit Go.Shelf
attribute [local go_sem] Oper.semAt_some

theorem fillOn_any (W : Nat) (H : Int) (l B : Nat) (J Jx : (Nat → Prop) → List CV → World → Prop) (hJ : AbX J) (hJx : AbX Jx) (hW1 : 1 ≤ W) (hW : W ≤ 13) (hH : H ≤ 6)
    (T : List (List Sq)) (Z : Nat) (hY : ∀ m X pre x W1, x.1 ∈ T → pre.length < Z → J X pre W1 → OkC B X x W1 → (∀ k, X k → B ≤ k ∧ k < W1.heap.size) → (∃ X', J X' pre W1 ∧ ∀ b, (Value.slice x.2.1 x.1.length x.2.2).ownBlock = some b → X' b) → YieldAt Fence.wide m Try.prog l (encC W H x) W1 fun e W' =>
      (e = .returned (.bool true) ∧ J X (pre ++ [x]) W' ∧ KeepX X W1 W') ∨ (e = .returned (.bool false) ∧ Jx X (pre ++ [x]) W' ∧ KeepX X W1 W')) (k : Nat) :
    ∀ (f : List Int) (L : List Sq) (A : Option Addr) (c : Nat) (X : Nat → Prop) (pre : List CV) (w : World), Fl W H f → free W H f ≤ k → L.length + free W H f ≤ 36 → (∀ M ∈ fills 6 H k f, L ++ M ∈ T) → pre.length + (fills 6 H k f).length ≤ Z → w.ownsRow B 77 3 (.slice A L.length c) L.length (flat L) →
      (∀ b, (Value.slice A L.length c).ownBlock = some b → X b) → JB J B X pre w → Calls Try.prog 106 #[.agg #[.int .i64 W, .int .i64 H, .slice A L.length c], arr (pad f), .func (.yield l) #[] #[]] w (FillPost J Jx B X pre L A L.length c (fills 6 H k f) w) := by
  induction k with
  | zero =>
    intro f L A c X pre w hf hk h36 hT hZ ho hA hj
    obtain ⟨x, y, r, hm, hr⟩ := hf.rm hW1
    obtain rfl := hf.zero (by omega) hm hr
    exact fillOn_leaf W H l B J Jx hJ hJx hW1 hW (by omega) T Z hY f x y hf hm hr L A L.length c X pre w rfl (by omega) (by have := hT [] (by rw [fills_leaf hm hr]; exact List.mem_singleton_self _); simpa using this) (by rw [fills_leaf hm hr] at hZ; simp only [List.length_singleton] at hZ; omega) ho hA hj
  | succ k ih =>
    intro f L A c X pre w hf hk h36 hT hZ ho hA hj
    obtain ⟨x, y, r, hm, hr⟩ := hf.rm hW1
    by_cases h0 : r = 0
    · subst h0
      rw [fills_leaf hm hr]
      exact fillOn_leaf W H l B J Jx hJ hJx hW1 hW (by omega) T Z hY f x y hf hm hr L A L.length c X pre w rfl (by omega) (by have := hT [] (by rw [fills_leaf hm hr]; exact List.mem_singleton_self _); simpa using this) (by rw [fills_leaf hm hr] at hZ; simp only [List.length_singleton] at hZ; omega) ho hA hj
    · exact fillOn_node W H l B J Jx hJ hJx hW1 hW hH T Z k ih f x r y hf hk hm hr h0 L A c X pre w h36 hT hZ ho hA hj

/-- All cuts of a width and a height, in their order. -/
noncomputable def allF (W H : Nat) : List (List Sq) := fills 6 H (W * H) (List.replicate W 0)
theorem sum_zeros (n : Nat) : (List.replicate n (0 : Int)).sum = 0 := by induction n with | zero => rfl | succ n ih => simp [List.replicate_succ]
theorem free_start (W H : Nat) : free W H (List.replicate W 0) = W * H := by
  unfold free
  rw [sum_zeros]
  have : ((W : Int) * (H : Int)) = ((W * H : Nat) : Int) := by simp
  omega
theorem pad_zeros {W : Nat} (h : W ≤ 13) : arr (pad (List.replicate W 0)) = .agg #[.int .i64 0, .int .i64 0, .int .i64 0, .int .i64 0, .int .i64 0, .int .i64 0, .int .i64 0, .int .i64 0, .int .i64 0, .int .i64 0, .int .i64 0, .int .i64 0, .int .i64 0] := by
  have e : pad (List.replicate W 0) = List.replicate 13 0 := by
    unfold pad
    rw [List.length_replicate, List.replicate_append_replicate]
    congr 1; omega
  rw [e]; rfl

set_option maxRecDepth 100000 in
set_option maxHeartbeats 2000000 in
theorem fill_seq (W H : Nat) (hW : 1 ≤ W ∧ W ≤ 6) (hH : 1 ≤ H ∧ H ≤ 6) (n Bw Bh : Nat) (w : World) (hw : w.cell? ⟨Bw, 0, none⟩ = some (.int .i64 W)) (hh : w.cell? ⟨Bh, 0, none⟩ = some (.int .i64 H)) :
    SeqX Fence.wide n Try.prog 105 #[.pointer (some ⟨Bw, 0, none⟩), .pointer (some ⟨Bh, 0, none⟩)] (encC W H) (fun X x V => x.1 ∈ allF W H ∧ OkC w.heap.size X x V) (fun xs => xs.map (·.1) = allF W H) (fun pre => ∃ zs, pre.map (·.1) ++ zs = allF W H) w := by
  intro l J Jx V hV hJ hJx hY h0
  have bw := World.block_lt_of_cell? _ _ hw
  have bh := World.block_lt_of_cell? _ _ hh
  have c0 := (hV.cell (p := ⟨Bw, 0, none⟩) bw).trans hw
  have c1 := (hV.cell (p := ⟨Bh, 0, none⟩) bh).trans hh
  have hf : Fl W H (List.replicate W 0) := Fl.start W (by omega)
  have hle : W * H ≤ 36 := by
    have := Nat.mul_le_mul hW.2 hH.2
    omega
  have C := fillOn_any W H l V.heap.size J Jx hJ hJx hW.1 (by omega) (by omega) (allF W H) (allF W H).length (fun m X pre x W1 hT hz hj hok hx _ => yield_any rfl m (hY X pre x W1 hj ⟨hT, own_base hok.1 hV.size, hok.2⟩ hx)) (W * H) (List.replicate W 0) [] none 0 (fun _ => False) [] V hf (by rw [free_start]; omega) (by rw [free_start]; simpa using hle) (fun M hM => by simpa [allF] using hM) (by simp [allF]) (World.ownsRow_nil _ _ _ _) (fun b hb => by cases hb) ⟨h0, fun k hk => hk.elim, Nat.le_refl _⟩
  rw [pad_zeros (by omega)] at C
  have HC := Lib.hid C
  clear C hY hf hle
  refine (callsIn_wide (n := n)).2 ?_
  show Calls Try.prog 105 #[.func (.yield l) #[] #[], .pointer (some ⟨Bw, 0, none⟩), .pointer (some ⟨Bh, 0, none⟩)] V _
  go_enter Try.func105, Try.ntmps105
  go_wp2_with fail
  refine HC.out.mono ?_
  rintro e W' (⟨rfl, X', ys, hx, hm, hj, _⟩ | ⟨rfl, X', ys, zs, hm, hj, _⟩)
  · go_wp2_with fail
    go_end0
    refine ⟨⟨_, rfl⟩, .inl ⟨ys, X', ?_, hj.j⟩⟩
    rw [hm]; simp [allF]
  · go_wp2_with fail
    go_end0
    refine ⟨⟨_, rfl⟩, .inr ⟨ys, X', ⟨zs, ?_⟩, hj⟩⟩
    rw [hm]; simp [allF]

set_option maxRecDepth 100000 in
set_option maxHeartbeats 2000000 in
theorem fill_seqz (W H : Nat) (hW : 1 ≤ W ∧ W ≤ 6) (hH : 1 ≤ H ∧ H ≤ 6) (n Bw Bh : Nat) (w : World) (hw : w.cell? ⟨Bw, 0, none⟩ = some (.int .i64 W)) (hh : w.cell? ⟨Bh, 0, none⟩ = some (.int .i64 H)) :
    SeqZ (fun (x : CV) b => (Value.slice x.2.1 x.1.length x.2.2).ownBlock = some b) (allF W H).length Fence.wide n Try.prog 105 #[.pointer (some ⟨Bw, 0, none⟩), .pointer (some ⟨Bh, 0, none⟩)] (encC W H) (fun X x V => x.1 ∈ allF W H ∧ OkC w.heap.size X x V) (fun xs => xs.map (·.1) = allF W H) (fun pre => ∃ zs, pre.map (·.1) ++ zs = allF W H) w := by
  intro l J Jx V hV hJ hJx hY h0
  have bw := World.block_lt_of_cell? _ _ hw
  have bh := World.block_lt_of_cell? _ _ hh
  have c0 := (hV.cell (p := ⟨Bw, 0, none⟩) bw).trans hw
  have c1 := (hV.cell (p := ⟨Bh, 0, none⟩) bh).trans hh
  have hf : Fl W H (List.replicate W 0) := Fl.start W (by omega)
  have hle : W * H ≤ 36 := by
    have := Nat.mul_le_mul hW.2 hH.2
    omega
  have C := fillOn_any W H l V.heap.size J Jx hJ hJx hW.1 (by omega) (by omega) (allF W H) (allF W H).length (fun m X pre x W1 hT hz hj hok hx hfr => yield_any rfl m (hY X pre x W1 hj ⟨hT, own_base hok.1 hV.size, hok.2⟩ hx hfr hz)) (W * H) (List.replicate W 0) [] none 0 (fun _ => False) [] V hf (by rw [free_start]; omega) (by rw [free_start]; simpa using hle) (fun M hM => by simpa [allF] using hM) (by simp [allF]) (World.ownsRow_nil _ _ _ _) (fun b hb => by cases hb) ⟨h0, fun k hk => hk.elim, Nat.le_refl _⟩
  rw [pad_zeros (by omega)] at C
  have HC := Lib.hid C
  clear C hY hf hle
  refine (callsIn_wide (n := n)).2 ?_
  show Calls Try.prog 105 #[.func (.yield l) #[] #[], .pointer (some ⟨Bw, 0, none⟩), .pointer (some ⟨Bh, 0, none⟩)] V _
  go_enter Try.func105, Try.ntmps105
  go_wp2_with fail
  refine HC.out.mono ?_
  rintro e W' (⟨rfl, X', ys, hx, hm, hj, _⟩ | ⟨rfl, X', ys, zs, hm, hj, _⟩)
  · go_wp2_with fail
    go_end0
    refine ⟨⟨_, rfl⟩, .inl ⟨ys, X', ?_, hj.j⟩⟩
    rw [hm]; simp [allF]
  · go_wp2_with fail
    go_end0
    refine ⟨⟨_, rfl⟩, .inr ⟨ys, X', ⟨zs, ?_⟩, hj⟩⟩
    rw [hm]; simp [allF]

theorem fillings_any (W H : Int) (w : World) :
    Calls Try.prog 63 #[.int .i64 W, .int .i64 H] w fun e w' => e = .returned (.func (.func 105) #[] #[.pointer (some ⟨w.heap.size, 0, none⟩), .pointer (some ⟨w.heap.size + 1, 0, none⟩)]) ∧ w' = (w.alloc (.cells #[.int .i64 W] 3)).alloc (.cells #[.int .i64 H] 3) := by
  go_enter Try.func63, Try.ntmps63
  go_wp2
  go_ret
  exact ⟨rfl, rfl⟩
theorem valuesC_any (A : Option Addr) (n c : Nat) (w : World) :
    Calls Try.prog 101 #[.slice A n c] w fun e w' => e = .returned (.func (.func 139) #[] #[.pointer (some ⟨w.heap.size, 0, none⟩)]) ∧ Below w.heap.size w w' := by
  go_enter Try.func101, Try.ntmps101
  go_wp2
  go_ret
  exact ⟨rfl, (Below.refl _ _).alloc (Nat.le_refl _) _⟩
end Go.Proofs.Ytchabjmdjpfkfaa
