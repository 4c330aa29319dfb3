/- The law PackKeeps returns true at all lists of words and rows, as they are read. -/
import Derived.Test.YtlnankianpchbaaPkQ
namespace Go.Proofs.Ytlnankianpchbaa
open Go.RowKit

set_option maxHeartbeats 1600000 in
set_option maxRecDepth 4000 in
theorem packKeeps_walk (adk : Option Addr) (lenk capk : Nat) (zs : List Int) (adl : Option Addr) (lenl capl : Nat) (width : Nat) (w : World) (hk : IsRow .u32 w adk lenk capk zs) (hg : GridIn w adl lenl) (hw : width < 256) :
    Calls Try.prog 4 #[.slice adk lenk capk, .slice adl lenl capl, .int .u8 (width : Int)] w fun e w' => e = .returned (.bool true) ∧ Below w.heap.size w w' := by
  obtain ⟨kl, rfl, hkl, hu⟩ := isRow_u32s hk
  obtain ⟨L, rfl, hgr, hL⟩ := hg
  by_cases h1 : kl.length ≤ 60
  · by_cases h2 : L.length ≤ 60
    · exact keeps_core kl L adk adl capk capl width w hu hgr hkl (wd_lt hL) h1 h2 hw
    · clear hk hkl hu hgr hL hw
      obtain ⟨m, hm⟩ : ∃ m, L.length = m := ⟨_, rfl⟩
      obtain ⟨n, hn⟩ : ∃ n, kl.length = n := ⟨_, rfl⟩
      rw [hm] at h2 ⊢
      rw [hn] at h1 ⊢
      clear hm hn
      have c1 : ¬ (60 : Int) < (n : Int) := by omega
      have c2 : (60 : Int) < (m : Int) := by omega
      clear h1 h2
      go_enter Try.func4, Try.ntmps4
      go_wp2_with (go_at_call 16; refine (awake4_any _).mono ?_; rintro e w1 ⟨rfl, hB1⟩; have HB1 := hid hB1; clear hB1)
      go_ret
      exact ⟨rfl, HB1.out⟩
  · clear hk hkl hu hgr hL hw
    obtain ⟨n, hn⟩ : ∃ n, kl.length = n := ⟨_, rfl⟩
    rw [hn] at h1 ⊢
    clear hn
    have c1 : (60 : Int) < (n : Int) := by omega
    clear h1
    go_enter Try.func4, Try.ntmps4
    go_wp2_with (go_at_call 16; refine (awake4_any _).mono ?_; rintro e w1 ⟨rfl, hB1⟩; have HB1 := hid hB1; clear hB1)
    go_ret
    exact ⟨rfl, HB1.out⟩
theorem read_packKeeps {H : Type} {enc : TypeId × Value → H} {W : World} {ad : Option Addr} {len cap : Nat} {d : DataW H} {p : List MemPlace} (h : DataW.Trod enc Try.prog W 0 (fun _ => true) true 22 (.slice ad len cap) d p) : GridIn W ad len := read_grid h
end Go.Proofs.Ytlnankianpchbaa
