/-
  The program's parts of a valid list of nodes: newPart and rootPart.
-/
import Derived.Test.YtdgbbgkdoekfkaaParts
namespace Go.Proofs.Ytdgbbgkdoekfkaa.Re
open Go.ChangeShapes Go.WideShapes Go.ChangeAt Go.RowKit Go.PlainAid
open Go.Proofs.Ytdgbbgkdoekfkaa.RePure
set_option linter.unusedVariables false

theorem part_form {S : Nat → Prop} {w : World} {l : List Nd} {i : Nat} {v : Value} (h : PartAt S w l i v) : ∃ t p, v = .iface t p := by
  cases h <;> exact ⟨_, _, rfl⟩

set_option maxRecDepth 100000 in
set_option maxHeartbeats 4000000 in
theorem new_part (S : Nat → Prop) (l : List Nd) (i : Nat) (kv : Value) (b cap : Nat) (u : Nat → Value) (v : Value) (w : World) (hn : NodeOk (nth l i)) (hS : ∀ x, S x → x < w.heap.size)
    (hv : (v = .slice none 0 0 ∧ (nth l i).kids.length = 0) ∨ v = .slice (some ⟨b, 0, none⟩) (nth l i).kids.length cap)
    (hc : ∀ k, k < (nth l i).kids.length → S b ∧ w.cell? ⟨b, k, none⟩ = some (u k)) (hu : ∀ k, k < (nth l i).kids.length → PartAt S w l (kd l i k).toNat (u k)) (hz : (nth l i).kids.length ≤ 1048576) :
    Calls Try.prog 72 #[nval (nth l i) kv, v] w fun e w' => ∃ r, e = .returned r ∧ PartAt S w' l i r ∧ ∃ o, w' = w.alloc o := by
  have HK : Hid (∀ o, Keep S w (w.alloc o)) := fun o => Keep.alloc w o hS
  unfold nval
  rcases hn with ⟨h0, hkz, _⟩ | ⟨_, _, h⟩
  · rw [h0]
    have H0 := Lib.hid h0; clear h0
    obtain ⟨ao, ln, cp, hvv⟩ : ∃ ao ln cp, v = .slice ao ln cp := by rcases hv with ⟨h, _⟩ | h <;> exact ⟨_, _, _, h⟩
    subst hvv
    clear hv hc hu
    go_enter Try.func72, Try.ntmps72
    go_wp2_with fail
    go_ret
    exact ⟨_, rfl, .set H0.out, _, rfl⟩
  · rcases h with ⟨h1 | h1, hkz⟩ | ⟨h1 | h1, hk2⟩ | ⟨h1 | h1 | h1, hk1⟩
    · rw [h1]
      have H0 := Lib.hid h1; clear h1
      obtain ⟨ao, ln, cp, hvv⟩ : ∃ ao ln cp, v = .slice ao ln cp := by rcases hv with ⟨h, _⟩ | h <;> exact ⟨_, _, _, h⟩
      subst hvv
      clear hv hc hu
      go_enter Try.func72, Try.ntmps72
      go_wp2_with fail
      go_ret
      exact ⟨_, rfl, .beg H0.out, _, rfl⟩
    · rw [h1]
      have H0 := Lib.hid h1; clear h1
      obtain ⟨ao, ln, cp, hvv⟩ : ∃ ao ln cp, v = .slice ao ln cp := by rcases hv with ⟨h, _⟩ | h <;> exact ⟨_, _, _, h⟩
      subst hvv
      clear hv hc hu
      go_enter Try.func72, Try.ntmps72
      go_wp2_with fail
      go_ret
      exact ⟨_, rfl, .fin H0.out, _, rfl⟩
    · rw [h1]
      have H0 := Lib.hid h1; clear h1
      have hvv : v = .slice (some ⟨b, 0, none⟩) (nth l i).kids.length cap := by rcases hv with ⟨_, h⟩ | h; omega; exact h
      subst hvv
      have HC := Lib.hid hc; clear hc
      have HU := Lib.hid hu; clear hu
      clear hv
      go_enter Try.func72, Try.ntmps72
      go_wp2_with fail
      go_ret
      refine ⟨_, rfl, .seq (u := u) H0.out (fun k hk => ⟨(HC.out k hk).1, ?_⟩) (fun k hk => (HU.out k hk).keep (HK.out _) (fun _ h => h)), _, rfl⟩
      rw [Nat.zero_add, (HK.out _).cell (p := ⟨b, k, none⟩) (HC.out k hk).1]
      exact (HC.out k hk).2
    · rw [h1]
      have H0 := Lib.hid h1; clear h1
      have hvv : v = .slice (some ⟨b, 0, none⟩) (nth l i).kids.length cap := by rcases hv with ⟨_, h⟩ | h; omega; exact h
      subst hvv
      have HC := Lib.hid hc; clear hc
      have HU := Lib.hid hu; clear hu
      clear hv
      go_enter Try.func72, Try.ntmps72
      go_wp2_with fail
      go_ret
      refine ⟨_, rfl, .alt (u := u) H0.out (fun k hk => ⟨(HC.out k hk).1, ?_⟩) (fun k hk => (HU.out k hk).keep (HK.out _) (fun _ h => h)), _, rfl⟩
      rw [Nat.zero_add, (HK.out _).cell (p := ⟨b, k, none⟩) (HC.out k hk).1]
      exact (HC.out k hk).2
    all_goals
      rw [h1]
      have H0 := Lib.hid h1; clear h1
      have hvv : v = .slice (some ⟨b, 0, none⟩) (nth l i).kids.length cap := by rcases hv with ⟨_, h⟩ | h; omega; exact h
      subst hvv
      obtain ⟨hSb, hc0⟩ := hc 0 (by omega)
      have hu0 := hu 0 (by omega)
      have c0 : ∀ o, (w.alloc o).cell? ⟨b, 0, none⟩ = some (u 0) := fun o => ((HK.out o).cell (p := ⟨b, 0, none⟩) hSb).trans hc0
      have HU := Lib.hid hu0; clear hu0
      obtain ⟨tt, pp, htp⟩ := part_form HU.out
      rw [htp] at c0 HU
      have hkp : (0 : Int) < ((nth l i).kids.length : Int) := by omega
      clear hv hc hu htp
      go_enter Try.func72, Try.ntmps72
      go_wp2_with fail
      go_ret
      first
        | exact ⟨_, rfl, .star H0.out (HU.out.keep (HK.out _) (fun _ h => h)), _, rfl⟩
        | exact ⟨_, rfl, .plus H0.out (HU.out.keep (HK.out _) (fun _ h => h)), _, rfl⟩
        | exact ⟨_, rfl, .opt H0.out (HU.out.keep (HK.out _) (fun _ h => h)), _, rfl⟩

end Go.Proofs.Ytdgbbgkdoekfkaa.Re
