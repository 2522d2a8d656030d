/- Nothing of maps.Clone here. -/
import Derived.Test.YtfbndbmhnpleoaaProg
